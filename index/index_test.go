package index_test

import (
	"fmt"
	"maps"
	"math"
	"slices"
	"strings"
	"testing"

	"bindle/api"
	"bindle/crc"
	"bindle/entry"
	"bindle/foot"
	"bindle/index"
	"bindle/local"
	"bindle/member"
	"bindle/sample"
)

func made(name string, at int) api.Member {
	return api.Member{Name: name, At: at, From: at + local.Len(name), Area: at % 100, Size: at % 100, Sum: uint32(at) * 7777}
}

func many(names ...string) []api.Member {
	var l []api.Member
	for i, name := range names {
		l = append(l, made(name, 1024+100*i))
	}
	return l
}

// full is as many members as there may be.
func full() []api.Member {
	var l []api.Member
	for i := range 200 {
		l = append(l, made(fmt.Sprintf("n%03d", i), 2000+i))
	}
	return l
}

func indexed(t *testing.T, l []api.Member) *index.Index {
	t.Helper()
	x, e := index.New(l)
	if e != api.OK || x == nil {
		t.Fatalf("New(%v): %d", l, e)
	}
	return x
}

func told(x *index.Index, folder string) []api.Member {
	return slices.Collect(x.Each(folder))
}

// wantAll holds all that an index tells against members in order.
func wantAll(t *testing.T, x *index.Index, want []api.Member) {
	t.Helper()
	if x.Len() != len(want) || !slices.Equal(x.All(), want) {
		t.Fatalf("%d %v, not %v", x.Len(), x.All(), want)
	}
	c := crc.Make()
	if b, e := foot.Write(&c, want); e != api.OK || x.Bytes() != len(b) {
		t.Fatalf("Bytes: %d, not %d", x.Bytes(), len(b))
	}
	for _, m := range want {
		if got, there := x.Get(m.Name); got != m || !there || !x.Room(m.Name) {
			t.Fatalf("Get(%q): %v %t", m.Name, got, there)
		}
	}
	for _, folder := range []string{"", "a", "a/b", "a/", "b", "zz", "n000", "/", ".", "a.b", "A"} {
		var in []api.Member
		for _, m := range want {
			if member.In(folder, m.Name) {
				in = append(in, m)
			}
		}
		if !slices.Equal(told(x, folder), in) || !slices.Equal(x.Under(folder), entry.Names(in)) {
			t.Fatalf("in %q: %v %v, not %v", folder, told(x, folder), x.Under(folder), in)
		}
	}
	for _, name := range []string{"", "missing", "a//b", "\xff", "~"} {
		if m, there := x.Get(name); there || m != (api.Member{}) || x.Room(name) != (len(want) < 200) {
			t.Fatalf("Get(%q): %v %t, Room %t", name, m, there, x.Room(name))
		}
	}
}

// 24.1

func TestNew(t *testing.T) {
	for _, l := range [][]api.Member{nil, {}, many("a"), many("a", "a/b", "a/b/c", "a/c", "aa", "b/a", "z"), full()} {
		kept := slices.Clone(l)
		x := indexed(t, l)
		wantAll(t, x, kept)
		for i := range l {
			l[i] = api.Member{}
		}
		wantAll(t, x, kept)
	}
	wantAll(t, &index.Index{}, nil)
}

func TestNewRefused(t *testing.T) {
	wrong := many("a", "b")
	wrong[1].From++
	for _, l := range [][]api.Member{many("b", "a"), many("a", "a"), many("a//b"), {{}}, wrong, append(full(), made("o", 2000))} {
		if x, e := index.New(l); x != nil || e != api.ErrArg {
			t.Errorf("New of what is no directory: %v %d", x, e)
		}
	}
}

func TestAnswersAreNewMemory(t *testing.T) {
	want := many("a", "b/c", "d")
	x := indexed(t, want)
	clear(x.All())
	clear(x.Under(""))
	clear(told(x, ""))
	wantAll(t, x, many("a", "b/c", "d"))
	all := x.All()
	x.Put(made("a", 5000))
	x.Drop("d")
	if !slices.Equal(all, want) {
		t.Error("All is changed by what is put later on")
	}
}

// 24.2

func TestPut(t *testing.T) {
	var x index.Index
	if e := x.Put(made("a", 1024)); e != api.OK || x.Len() != 1 || x.Bytes() != 39 {
		t.Errorf("the example: %d %d %d", e, x.Len(), x.Bytes())
	}
	x.Put(made("c", 2000))
	x.Put(made("b", 3000))
	x.Put(made("a/b", 4000))
	wantAll(t, &x, []api.Member{made("a", 1024), made("a/b", 4000), made("b", 3000), made("c", 2000)})
	x.Put(made("a/b", 5000))
	x.Put(made("c", 6000))
	wantAll(t, &x, []api.Member{made("a", 1024), made("a/b", 5000), made("b", 3000), made("c", 6000)})
}

func TestPutRefused(t *testing.T) {
	x := indexed(t, many("a", "b"))
	wrong := made("b", 5000)
	wrong.Size = -1
	for _, m := range []api.Member{{}, made("", 2000), made("a//b", 2000), made("a", 1023), wrong, {Name: "a", At: math.MaxInt, From: math.MinInt}} {
		if e := x.Put(m); e != api.ErrArg {
			t.Errorf("Put(%v): %d", m, e)
		}
	}
	wantAll(t, x, many("a", "b"))
}

func TestPutInAFullOne(t *testing.T) {
	x := indexed(t, full())
	if e := x.Put(made("o", 2000)); e != api.ErrLimit {
		t.Errorf("one more: %d", e)
	}
	if e := x.Put(api.Member{Name: "o"}); e != api.ErrArg {
		t.Errorf("one more, that may not be: %d", e)
	}
	wantAll(t, x, full())
	want := full()
	want[77] = made("n077", 9000)
	if e := x.Put(want[77]); e != api.OK {
		t.Errorf("in the place of one: %d", e)
	}
	wantAll(t, x, want)
	if !x.Drop("n000") || x.Put(made("o", 2000)) != api.OK {
		t.Error("in the room of one that is gone")
	}
	wantAll(t, x, append(want[1:], made("o", 2000)))
}

func TestDrop(t *testing.T) {
	x := indexed(t, many("a", "b", "c"))
	for _, name := range []string{"", "aa", "d", "A", "a/", "\xff"} {
		if x.Drop(name) {
			t.Errorf("Drop(%q): true", name)
		}
	}
	wantAll(t, x, many("a", "b", "c"))
	l := many("a", "b", "c")
	if !x.Drop("b") || x.Drop("b") {
		t.Error("Drop of what is there, and of what isn't any more")
	}
	wantAll(t, x, []api.Member{l[0], l[2]})
	if !x.Drop("c") || !x.Drop("a") || x.Drop("a") {
		t.Error("Drop of the last ones")
	}
	wantAll(t, x, nil)
}

// 24.3

func TestEach(t *testing.T) {
	x := indexed(t, many("a", "a!", "a!/x", "a-b", "a/b", "a/b/c", "a/b/d", "a/bb", "a0", "b", "c/a/b"))
	for _, w := range []struct {
		folder string
		want   []string
	}{
		{"a", []string{"a/b", "a/b/c", "a/b/d", "a/bb"}},
		{"a!", []string{"a!/x"}},
		{"a/b", []string{"a/b/c", "a/b/d"}},
		{"a/b/c", nil},
		{"b", nil},
		{"c", []string{"c/a/b"}},
		{"c/a", []string{"c/a/b"}},
		{"d", nil},
		{"a/", nil},
		{"/", nil},
		{"..", nil},
		{"", x.Under("")},
	} {
		if got := x.Under(w.folder); !slices.Equal(got, w.want) || !slices.Equal(entry.Names(told(x, w.folder)), w.want) {
			t.Errorf("in %q: %q, not %q", w.folder, got, w.want)
		}
	}
	if len(x.Under("")) != 11 {
		t.Error("nothing hasn't all names")
	}
}

func TestEachTellsWhatWasThere(t *testing.T) {
	want := many("a/b", "a/c", "b")
	x := indexed(t, want)
	in, all := x.Each("a"), x.Each("")
	x.Put(made("a/b", 7000))
	x.Put(made("a/a", 8000))
	x.Drop("a/c")
	for range 2 {
		if !slices.Equal(slices.Collect(in), want[:2]) || !slices.Equal(slices.Collect(all), want) {
			t.Errorf("what is changed later on is told: %v %v", slices.Collect(in), slices.Collect(all))
		}
	}
	wantAll(t, x, []api.Member{made("a/a", 8000), made("a/b", 7000), want[2]})
	told := 0
	for m := range x.Each("") {
		x.Drop(m.Name)
		told++
		if told == 2 {
			break
		}
	}
	if x.Len() != 1 || told != 2 {
		t.Errorf("dropped while they are told: %d left", x.Len())
	}
}

func TestANilOne(t *testing.T) {
	var x *index.Index
	if m, there := x.Get("a"); there || m != (api.Member{}) {
		t.Error("Get")
	}
	if x.Len() != 0 || x.Bytes() != 0 || x.Room("a") || x.Drop("a") || len(x.All()) != 0 || len(told(x, "")) != 0 || len(x.Under("")) != 0 {
		t.Error("a nil one has something")
	}
	if x.Put(made("a", 1024)) != api.ErrArg || x.Put(api.Member{}) != api.ErrArg {
		t.Error("Put")
	}
	var zero index.Index
	if zero.Bytes() != 20 || !zero.Room("a") || !zero.Room("") {
		t.Error("a zero one")
	}
}

// 24.4

func TestAgainstAMap(t *testing.T) {
	dice := sample.Dice(24)
	names := strings.Fields("a a/b a/b/c a/c aa b b/a c z z/z zz")
	for range 20 {
		var x index.Index
		mine := map[string]api.Member{}
		for range 60 {
			name := names[dice(len(names))]
			_, there := mine[name]
			if dice(3) == 0 {
				delete(mine, name)
				if x.Drop(name) != there {
					t.Fatal("Drop")
				}
			} else {
				m := made(name, 1024+dice(9999))
				mine[name] = m
				if x.Put(m) != api.OK {
					t.Fatal("Put")
				}
			}
			var want []api.Member
			for _, name := range slices.Sorted(maps.Keys(mine)) {
				want = append(want, mine[name])
			}
			wantAll(t, &x, want)
		}
	}
}
