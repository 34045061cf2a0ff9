package plan_test

import (
	"bytes"
	"fmt"
	"math"
	"slices"
	"strings"
	"testing"

	"bindle/api"
	"bindle/archive"
	"bindle/crashfs"
	"bindle/model"
	"bindle/plan"
	"bindle/sample"
	"bindle/script"
)

const (
	maxData    = 65536
	maxMembers = 200
)

// listed is the files of a map that is written as names and data.
func listed(words ...string) []api.File {
	all := map[string]string{}
	for i := 0; i < len(words); i += 2 {
		all[words[i]] = words[i+1]
	}
	return sample.Files(all)
}

// full is as many files as there may be.
func full() []api.File {
	var l []api.File
	for i := range maxMembers {
		l = append(l, sample.File(fmt.Sprintf("n%03d", i), "x"))
	}
	return l
}

// thrown is a map of few names.
func thrown(dice func(int) int) []api.File {
	all := map[string]string{}
	for range dice(9) {
		all[[]string{"a", "a/b", "a-b", "b", "c", "d/e/f", "z"}[dice(7)]] = []string{"", "1", "22", "333"}[dice(4)]
	}
	return sample.Files(all)
}

func put(name, data string) api.Op {
	return sample.Step(model.Put, name, data)
}

func gone(name string) api.Op {
	return sample.Step(model.Delete, name, "")
}

func same(a, b []api.Op) bool {
	return slices.EqualFunc(a, b, script.Same)
}

// clone is files that share nothing with others.
func clone(l []api.File) []api.File {
	l = slices.Clone(l)
	for i := range l {
		l[i].Data = bytes.Clone(l[i].Data)
	}
	return l
}

// 38.1

func TestRight(t *testing.T) {
	a, b := sample.File("a", "1"), sample.File("b", "")
	for _, x := range []struct {
		what string
		l    []api.File
		want bool
	}{
		{"nothing", nil, true},
		{"no files", []api.File{}, true},
		{"two", []api.File{a, b}, true},
		{"by bytes", listed("a", "", "a-b", "", "a/b", "", "ab", ""), true},
		{"by parts", []api.File{{Name: "a"}, {Name: "a/b"}, {Name: "a-b"}}, false},
		{"falling", []api.File{b, a}, false},
		{"falling at the end", []api.File{{Name: "a"}, {Name: "c"}, {Name: "b"}}, false},
		{"twice", []api.File{a, a}, false},
		{"no name", []api.File{{Name: ""}}, false},
		{"no name behind", []api.File{a, {Name: "a//b"}}, false},
		{"no name, of two points", []api.File{{Name: ".."}, b}, false},
		{"a long name", []api.File{{Name: strings.Repeat("n", 64)}}, true},
		{"a longer one", []api.File{{Name: strings.Repeat("n", 65)}}, false},
		{"much data", []api.File{{Name: "a", Data: make([]byte, maxData)}, b}, true},
		{"more data", []api.File{{Name: "a", Data: make([]byte, maxData+1)}, b}, false},
		{"more data behind", []api.File{a, {Name: "b", Data: make([]byte, maxData+1)}}, false},
		{"200", full(), true},
		{"201", append(full(), sample.File("o", "")), false},
		{"199", full()[1:], true},
	} {
		if plan.Right(x.l) != x.want {
			t.Errorf("%s: %t", x.what, !x.want)
		}
	}
}

func TestDiff(t *testing.T) {
	for _, x := range []struct {
		what string
		a, b []api.File
		want []api.Op
	}{
		{"nothing", nil, nil, nil},
		{"the example", listed("a", "1"), listed("b", "2"), []api.Op{gone("a"), put("b", "2")}},
		{"from nothing", nil, listed("b", "2", "a", ""), []api.Op{put("a", ""), put("b", "2")}},
		{"to nothing", listed("b", "2", "a", ""), nil, []api.Op{gone("a"), gone("b")}},
		{"alike", listed("a", "1", "b", ""), listed("a", "1", "b", ""), nil},
		{"other data", listed("a", "1", "b", "2"), listed("a", "2", "b", "2"), []api.Op{put("a", "2")}},
		{"no data any more", listed("a", "1"), listed("a", ""), []api.Op{put("a", "")}},
		{"data at last", listed("a", ""), listed("a", "1"), []api.Op{put("a", "1")}},
		{"data that begins alike", listed("a", "1"), listed("a", "11"), []api.Op{put("a", "11")}},
		{"those that are gone first", listed("b", "1", "d", "1", "f", "1", "g", ""), listed("a", "1", "c", "1", "d", "2", "e", "1", "g", ""), []api.Op{gone("b"), gone("f"), put("a", "1"), put("c", "1"), put("d", "2"), put("e", "1")}},
		{"by bytes", listed("a/b", "", "ab", ""), listed("a-b", "", "a", "", "a0", ""), []api.Op{gone("a/b"), gone("ab"), put("a", ""), put("a-b", ""), put("a0", "")}},
	} {
		a, b := clone(x.a), clone(x.b)
		got := plan.Diff(a, b)
		if !same(got, x.want) {
			t.Errorf("%s: %v, not %v", x.what, got, x.want)
		}
		if !model.Same(a, x.a) || !model.Same(b, x.b) {
			t.Errorf("%s: changed", x.what)
		}
		for _, o := range got {
			clear(o.Data)
		}
		if !model.Same(a, x.a) || !model.Same(b, x.b) {
			t.Errorf("%s: the answer isn't new memory", x.what)
		}
	}
}

// 38.2

func TestApply(t *testing.T) {
	l := listed("b", "1", "d", "22")
	for _, x := range []struct {
		what  string
		l     []api.File
		steps []api.Op
		want  []api.File
		e     api.Errno
	}{
		{"nothing", nil, nil, nil, api.OK},
		{"no steps", l, nil, l, api.OK},
		{"a put ahead", l, []api.Op{put("a", "3")}, listed("a", "3", "b", "1", "d", "22"), api.OK},
		{"a put between", l, []api.Op{put("c", "")}, listed("b", "1", "c", "", "d", "22"), api.OK},
		{"a put behind", l, []api.Op{put("d/e", "3")}, listed("b", "1", "d", "22", "d/e", "3"), api.OK},
		{"a put anew", l, []api.Op{put("b", "3")}, listed("b", "3", "d", "22"), api.OK},
		{"gone", l, []api.Op{gone("b")}, listed("d", "22"), api.OK},
		{"all gone", l, []api.Op{gone("d"), gone("b")}, nil, api.OK},
		{"one behind the other", l, []api.Op{gone("b"), put("b", "4"), put("a", "1"), put("a", "2"), gone("d")}, listed("a", "2", "b", "4"), api.OK},
		{"gone twice", l, []api.Op{gone("b"), gone("b")}, nil, api.ErrNotFound},
		{"gone, not there", l, []api.Op{gone("c")}, nil, api.ErrNotFound},
		{"gone, no name", l, []api.Op{gone("a//b")}, nil, api.ErrNotFound},
		{"no name", l, []api.Op{put("a//b", "")}, nil, api.ErrName},
		{"no name, and too much", l, []api.Op{put("", string(make([]byte, maxData+1)))}, nil, api.ErrName},
		{"too much", l, []api.Op{put("b", string(make([]byte, maxData+1)))}, nil, api.ErrSize},
		{"much", l, []api.Op{put("b", string(make([]byte, maxData)))}, listed("b", string(make([]byte, maxData)), "d", "22"), api.OK},
		{"201", full(), []api.Op{put("o", "")}, nil, api.ErrLimit},
		{"201, and too much", full(), []api.Op{put("o", string(make([]byte, maxData+1)))}, nil, api.ErrSize},
		{"201, and no name", full(), []api.Op{put("o//", "")}, nil, api.ErrName},
		{"200, one anew", full(), []api.Op{put("n199", "y")}, append(full()[:199], sample.File("n199", "y")), api.OK},
		{"200, one gone", full(), []api.Op{gone("n000"), put("o", "")}, append(full()[1:], sample.File("o", "")), api.OK},
		{"199, two more", full()[1:], []api.Op{put("o", ""), put("p", "")}, nil, api.ErrLimit},
		{"the first one is told", l, []api.Op{put("b", ""), gone("c"), put("", "")}, nil, api.ErrNotFound},
		{"the first one is told", l, []api.Op{put("", ""), gone("c")}, nil, api.ErrName},
	} {
		before := clone(x.l)
		got, e := plan.Apply(before, x.steps)
		if !model.Same(got, x.want) || e != x.e || e != api.OK && len(got) != 0 {
			t.Errorf("%s: %d files, %d, not %d files, %d", x.what, len(got), e, len(x.want), x.e)
		}
		if !model.Same(before, x.l) {
			t.Errorf("%s: changed", x.what)
		}
		wantBack(t, x.what, x.l, x.steps, x.want, x.e)
	}
	for _, kind := range []int{math.MinInt, -1, 0, 1, 2, 4, 5, 6, 7, 8, 9, 10, 12, 13, 14, 15, 16, 17, 18, 19, math.MaxInt} {
		for _, name := range []string{"b", "c", ""} {
			if got, e := plan.Apply(l, []api.Op{sample.Step(kind, name, "x")}); len(got) != 0 || e != api.ErrArg {
				t.Errorf("kind %d: %v %d", kind, got, e)
			}
			wantBack(t, "another kind", l, []api.Op{sample.Step(kind, name, "x")}, nil, api.ErrArg)
		}
	}
}

// wantBack holds that steps back lead to what was.
func wantBack(t *testing.T, what string, l []api.File, steps []api.Op, behind []api.File, e api.Errno) {
	t.Helper()
	var want []api.Op
	if e == api.OK {
		want = plan.Diff(behind, l)
	}
	if got, ge := plan.Back(l, steps); !same(got, want) || ge != e {
		t.Errorf("%s: Back: %v %d, not %v %d", what, got, ge, want, e)
	}
}

// N, and what a crash keeps, don't count.
func TestWhatElseAStepHas(t *testing.T) {
	o := put("a", "1")
	o.N, o.C = -9, api.Crash{Keep: []bool{true}, Names: 3, Fill: 4}
	d := gone("b")
	d.Data, d.N = make([]byte, maxData+1), 7
	if l, e := plan.Apply(listed("b", ""), []api.Op{o, d}); !model.Same(l, listed("a", "1")) || e != api.OK {
		t.Errorf("%v %d", l, e)
	}
}

func TestBackByHand(t *testing.T) {
	if got, e := plan.Back(listed("a", "1", "b", "2"), []api.Op{gone("a"), put("b", "3"), put("c", "4")}); !same(got, []api.Op{gone("c"), put("a", "1"), put("b", "2")}) || e != api.OK {
		t.Errorf("%v %d", got, e)
	}
}

func TestAnswersAreNewMemory(t *testing.T) {
	l := listed("a", "1", "b", "2")
	steps := []api.Op{put("c", "3")}
	first, _ := plan.Apply(l, steps)
	back, _ := plan.Back(l, []api.Op{gone("a")})
	merged, _ := plan.Merge(l, l, first)
	for _, f := range append(first, merged...) {
		clear(f.Data)
	}
	clear(back[0].Data)
	if !model.Same(l, listed("a", "1", "b", "2")) || string(steps[0].Data) != "3" {
		t.Error("the answers aren't new memory")
	}
	second, _ := plan.Apply(l, steps)
	clear(steps[0].Data)
	clear(l[0].Data)
	if !model.Same(second, listed("a", "1", "b", "2", "c", "3")) {
		t.Error("what is handed in is kept")
	}
}

// 38.3

// merged is the words, name by name.
func merged(base, a, b []api.File) (l []api.File, clash []string) {
	all := map[string]string{}
	for _, m := range [][]api.File{base, a, b} {
		for _, f := range m {
			all[f.Name] = ""
		}
	}
	text := func(m []api.File, name string) string {
		data, there := model.Find(m, name)
		return fmt.Sprint(there, data)
	}
	for _, f := range sample.Files(all) {
		name := f.Name
		of := base
		switch {
		case text(a, name) == text(b, name):
			of = a
		case text(a, name) == text(base, name):
			of = b
		case text(b, name) == text(base, name):
			of = a
		default:
			clash = append(clash, name)
		}
		if data, there := model.Find(of, name); there {
			l = model.With(l, name, data)
		}
	}
	return l, clash
}

func TestMergeOfOne(t *testing.T) {
	may := [][]api.File{nil, listed("n", ""), listed("n", "1"), listed("n", "2")}
	for i, base := range may {
		for j, a := range may {
			for k, b := range may {
				want, clash := base, []string(nil)
				switch {
				case j == k, k == i:
					want = a
				case j == i:
					want = b
				default:
					clash = []string{"n"}
				}
				if l, c := plan.Merge(base, a, b); !model.Same(l, want) || !slices.Equal(c, clash) {
					t.Errorf("%v, %v, %v: %v %v, not %v %v", base, a, b, l, c, want, clash)
				}
			}
		}
	}
}

func TestMergeByHand(t *testing.T) {
	base := listed("a", "1", "b", "1", "c", "1", "d", "1", "f", "1")
	a := listed("a", "2", "b", "1", "d", "3", "e", "5", "f", "1")
	b := listed("a", "1", "b", "2", "c", "1", "d", "4", "e", "6", "g", "7")
	l, clash := plan.Merge(base, a, b)
	if !model.Same(l, listed("a", "2", "b", "2", "d", "1", "g", "7")) || !slices.Equal(clash, []string{"d", "e"}) {
		t.Errorf("%v %v", l, clash)
	}
}

// 38.4

func TestADifferenceLeadsThereAndBack(t *testing.T) {
	dice := sample.Dice(38)
	for range 1000 {
		a, b := thrown(dice), thrown(dice)
		steps := plan.Diff(a, b)
		got, e := plan.Apply(a, steps)
		if !model.Same(got, b) || e != api.OK {
			t.Fatalf("from %v to %v: %v %d", a, b, got, e)
		}
		back, e := plan.Back(a, steps)
		if got, ge := plan.Apply(b, back); !model.Same(got, a) || e != api.OK || ge != api.OK {
			t.Fatalf("from %v to %v: back %v %d", a, b, got, ge)
		}
		for i := range steps {
			if got, e := plan.Apply(a, slices.Delete(slices.Clone(steps), i, i+1)); e == api.OK && model.Same(got, b) {
				t.Fatalf("from %v to %v: step %d can be left out", a, b, i)
			}
		}
	}
	// Where both are as great as may be, what is gone makes room.
	a, b := full(), full()[:190]
	for i := range 10 {
		b = append([]api.File{sample.File(fmt.Sprintf("m%d", 9-i), "")}, b...)
	}
	if got, e := plan.Apply(a, plan.Diff(a, b)); !model.Same(got, b) || e != api.OK {
		t.Errorf("of 200: %d files, %d", len(got), e)
	}
}

func TestMergeOfAny(t *testing.T) {
	dice := sample.Dice(39)
	clashes := 0
	for range 2000 {
		base, a, b := thrown(dice), thrown(dice), thrown(dice)
		want, wc := merged(base, a, b)
		kept := [][]api.File{clone(base), clone(a), clone(b)}
		l, clash := plan.Merge(base, a, b)
		if !model.Same(l, want) || !slices.Equal(clash, wc) {
			t.Fatalf("%v, %v, %v: %v %v, not %v %v", base, a, b, l, clash, want, wc)
		}
		if l, c := plan.Merge(base, b, a); !model.Same(l, want) || !slices.Equal(c, wc) {
			t.Fatalf("%v, %v, %v: the other way %v %v", base, a, b, l, c)
		}
		if l, c := plan.Merge(base, a, base); !model.Same(l, a) || len(c) != 0 {
			t.Fatalf("%v, %v: what one changed: %v %v", base, a, l, c)
		}
		if l, c := plan.Merge(base, a, a); !model.Same(l, a) || len(c) != 0 {
			t.Fatalf("%v, %v: what both changed: %v %v", base, a, l, c)
		}
		if !model.Same(base, kept[0]) || !model.Same(a, kept[1]) || !model.Same(b, kept[2]) {
			t.Fatal("what is handed in is changed")
		}
		clashes += len(clash)
	}
	if clashes < 100 {
		t.Errorf("but %d clash", clashes)
	}
}

// Done on an archive, steps lead to the same.
func TestStepsOfAnArchive(t *testing.T) {
	dice := sample.Dice(40)
	f := crashfs.New(2000)
	archive.Create(f, "a")
	x, _ := archive.Open(f, "a")
	var now []api.File
	for range 40 {
		next := thrown(dice)
		for _, o := range plan.Diff(now, next) {
			e := api.OK
			if o.Kind == model.Put {
				e = x.Put(o.Name, o.Data, o.N)
			} else {
				e = x.Delete(o.Name)
			}
			if e != api.OK {
				t.Fatalf("kind %d of %q: %d", o.Kind, o.Name, e)
			}
		}
		if l, e := x.Files(); !model.Same(l, next) || e != api.OK {
			t.Fatalf("%v %d, not %v", l, e, next)
		}
		now = next
	}
}

// Of lists that are no maps nothing is promised but that all ends, and nothing panics.
func TestNoMaps(t *testing.T) {
	dice := sample.Dice(41)
	for range 200 {
		var several [3][]api.File
		for i := range several {
			for range dice(6) {
				several[i] = append(several[i], sample.File([]string{"", "a", "b", "a//", "\xff"}[dice(5)], "x"))
			}
		}
		plan.Right(several[0])
		plan.Back(several[0], plan.Diff(several[0], several[1]))
		plan.Merge(several[0], several[1], several[2])
	}
}
