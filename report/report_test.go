package report_test

import (
	"fmt"
	"math"
	"strings"
	"testing"

	"bindle/api"
	"bindle/model"
	"bindle/play"
	"bindle/report"
	"bindle/sample"
	"bindle/script"
)

const (
	kindWords  = "create open put begin write finish abort get stat list delete sync vacuum close verify refuse cut crash"
	errorWords = "ok arg end form sum size name notfound busy nospace io poisoned closed codes limit nostream exists"
)

// 33.1

func TestKinds(t *testing.T) {
	words := strings.Fields(kindWords)
	if len(words) != 18 || words[model.Create-1] != "create" || words[model.Crash-1] != "crash" {
		t.Fatal("no list")
	}
	for i, w := range words {
		if report.Word(1+i) != w || report.Kind(w) != 1+i {
			t.Errorf("%d: %q; %q: %d", 1+i, report.Word(1+i), w, report.Kind(w))
		}
	}
	for _, kind := range []int{math.MinInt, -18, -1, 0, 19, 20, 255, 256 + 1, 1<<32 + 1, math.MaxInt} {
		if w := report.Word(kind); w != "none" {
			t.Errorf("%d: %q", kind, w)
		}
	}
	for _, w := range notWords() {
		if kind := report.Kind(w); kind != 0 {
			t.Errorf("%q: %d", w, kind)
		}
	}
	for _, w := range strings.Fields(errorWords) {
		if kind := report.Kind(w); kind != 0 {
			t.Errorf("%q: %d", w, kind)
		}
	}
}

// notWords are those of no Kind, and of no error.
func notWords() []string {
	return []string{"", "none", "other", "Create", "OK", "creat", "creates", "create ", " ok", "o", "okk", "not found", "ErrArg", "\x00", "create\x00"}
}

func TestErrors(t *testing.T) {
	words := strings.Fields(errorWords)
	if len(words) != 17 || words[api.OK] != "ok" || words[api.ErrExists] != "exists" {
		t.Fatal("no list")
	}
	for i, w := range words {
		e := api.Errno(i)
		if got, ok := report.Error(w); report.Code(e) != w || got != e || !ok {
			t.Errorf("%d: %q; %q: %d %t", e, report.Code(e), w, got, ok)
		}
	}
	for _, e := range []api.Errno{math.MinInt, -17, -1, 17, 18, 255, 256, 1 << 32, math.MaxInt} {
		if w := report.Code(e); w != "other" {
			t.Errorf("%d: %q", e, w)
		}
	}
	for _, w := range append(notWords(), strings.Fields(kindWords)...) {
		if e, ok := report.Error(w); e != api.OK || ok {
			t.Errorf("%q: %d %t", w, e, ok)
		}
	}
}

// 33.2

// line is a step, its answer, and their line.
type line struct {
	o    api.Op
	a    model.Answer
	want string
}

func lines() []line {
	three := []api.File{{Name: "a"}, {Name: "b"}, {Name: "c"}}
	return []line{
		{sample.Step(model.Get, "a", ""), model.Answer{Data: []byte("abc")}, "get a: ok 3b"},
		{sample.Step(model.Get, "a", "more"), model.Answer{}, "get a: ok 0b"},
		{sample.Step(model.Get, "a//b", ""), model.Answer{Data: make([]byte, 65536)}, "get: ok 65536b"},
		{sample.Step(model.Get, "a", ""), model.Answer{E: api.ErrNotFound}, "get a: notfound"},
		{sample.Step(model.Get, "a", ""), model.Answer{E: api.ErrSum, Data: []byte("abc"), Size: 3}, "get a: sum"},
		{sample.Step(model.Stat, "a/b", ""), model.Answer{Size: 70}, "stat a/b: ok 70b"},
		{sample.Step(model.Stat, "a", ""), model.Answer{Size: -70, Data: []byte("a")}, "stat a: ok -70b"},
		{sample.Step(model.Stat, "a", ""), model.Answer{Size: math.MinInt}, "stat a: ok -9223372036854775808b"},
		{sample.Step(model.Stat, "a", ""), model.Answer{E: api.ErrClosed, Size: 7}, "stat a: closed"},
		{sample.Step(model.List, "", ""), model.Answer{Names: []string{"a", "b"}, Files: three}, "list: ok 2x"},
		{sample.Step(model.List, "a", ""), model.Answer{Files: three}, "list a: ok 0x"},
		{sample.Step(model.List, "a", ""), model.Answer{E: 17, Names: []string{"a"}}, "list a: other"},
		{sample.Step(model.Open, "", ""), model.Answer{Files: three, Names: []string{"a"}}, "open: ok 3x"},
		{sample.Step(model.Open, "", ""), model.Answer{}, "open: ok 0x"},
		{sample.Step(model.Open, "x", ""), model.Answer{E: api.ErrIO, Refused: true}, "open x: io refused"},
		{sample.Step(model.Verify, "", ""), model.Answer{Files: three, Poisoned: true}, "verify: ok 3x poisoned"},
		{sample.Step(model.Verify, "", ""), model.Answer{E: api.ErrForm}, "verify: form"},
		{sample.Step(model.Put, "a", "abc"), model.Answer{}, "put a: ok"},
		{sample.Step(model.Put, "a", "abc"), model.Answer{Data: []byte("a"), Size: 1, Files: three, Names: []string{"a"}}, "put a: ok"},
		{sample.Step(model.Put, "a b", ""), model.Answer{E: api.ErrName}, "put: name"},
		{sample.Step(model.Put, ".", ""), model.Answer{E: api.ErrName}, "put: name"},
		{sample.Step(model.Put, strings.Repeat("n", 65), ""), model.Answer{E: api.ErrName}, "put: name"},
		{sample.Step(model.Begin, strings.Repeat("n", 64), ""), model.Answer{}, "begin " + strings.Repeat("n", 64) + ": ok"},
		{sample.Step(model.Write, "w", "x"), model.Answer{E: api.ErrNoStream}, "write w: nostream"},
		{sample.Step(model.Finish, "", ""), model.Answer{E: api.ErrNoSpace, Refused: true, Poisoned: true}, "finish: nospace refused poisoned"},
		{sample.Step(model.Sync, "", ""), model.Answer{E: api.ErrIO, Refused: true, Poisoned: true}, "sync: io refused poisoned"},
		{sample.Step(model.Get, "a", ""), model.Answer{Data: []byte("1"), Refused: true, Poisoned: true}, "get a: ok 1b refused poisoned"},
		{sample.Step(model.Delete, "a", ""), model.Answer{E: api.ErrPoisoned, Poisoned: true}, "delete a: poisoned poisoned"},
		{sample.Step(model.Crash, "", ""), model.Answer{}, "crash: ok"},
		{sample.Step(0, "a", ""), model.Answer{E: api.ErrArg}, "none a: arg"},
		{sample.Step(19, "", ""), model.Answer{Data: []byte("x")}, "none: ok"},
		{sample.Step(-1, "", ""), model.Answer{E: -1}, "none: other"},
	}
}

func TestLine(t *testing.T) {
	for _, x := range lines() {
		if got := report.Line(x.o, x.a); got != x.want {
			t.Errorf("%q, not %q", got, x.want)
		}
	}
	// Beside ok nothing but these Kinds tells more.
	for kind := -1; kind < 21; kind++ {
		got := report.Line(sample.Step(kind, "a", "b"), model.Answer{Data: []byte("1"), Size: 2, Names: []string{"1", "2", "3"}, Files: make([]api.File, 4)})
		want := report.Word(kind) + " a: ok"
		switch kind {
		case model.Get:
			want += " 1b"
		case model.Stat:
			want += " 2b"
		case model.List:
			want += " 3x"
		case model.Open, model.Verify:
			want += " 4x"
		}
		if got != want {
			t.Errorf("%q, not %q", got, want)
		}
	}
}

func split(l []line) ([]api.Op, []model.Answer) {
	var steps []api.Op
	var answers []model.Answer
	for _, x := range l {
		steps = append(steps, x.o)
		answers = append(answers, x.a)
	}
	return steps, answers
}

func TestText(t *testing.T) {
	for n := range len(lines()) + 1 {
		want := ""
		for _, x := range lines()[:n] {
			want += x.want + "\n"
		}
		l, a := split(lines()[:n])
		if got, e := report.Text(l, a); got != want || e != api.OK {
			t.Errorf("of %d lines: %q %d, not %q", n, got, e, want)
		}
	}
}

func TestUnlikeNumbers(t *testing.T) {
	l, a := split(lines())
	for _, x := range []struct{ steps, answers int }{{0, 1}, {1, 0}, {3, 4}, {4, 3}, {len(l), len(l) - 1}} {
		if s, e := report.Text(l[:x.steps], a[:x.answers]); s != "" || e != api.ErrArg {
			t.Errorf("Text of %v: %q %d", x, s, e)
		}
		if s, e := report.Sum(l[:x.steps], a[:x.answers]); s != (report.Summary{}) || e != api.ErrArg {
			t.Errorf("Sum of %v: %v %d", x, s, e)
		}
	}
}

func TestSum(t *testing.T) {
	if s, e := report.Sum(nil, nil); s != (report.Summary{}) || e != api.OK {
		t.Errorf("of nothing: %v %d", s, e)
	}
	l, a := split(lines())
	s, e := report.Sum(l, a)
	want := report.Summary{
		Steps: 32, Refused: 4, Poisoned: 5, Most: 65536,
		Kinds:  [19]int{3, 0, 3, 5, 1, 1, 1, 0, 6, 4, 3, 1, 1, 0, 0, 2, 0, 0, 1},
		Errors: [17]int{17, 1, 0, 1, 1, 0, 3, 1, 0, 1, 2, 1, 1, 0, 0, 1, 0},
	}
	if s != want || e != api.OK {
		t.Errorf("%v %d, not %v", s, e, want)
	}
}

// Each Kind, and each error, is counted at its own place, and what is none of both at 0, or not.
func TestSumOfEach(t *testing.T) {
	for kind := -2; kind < 22; kind++ {
		for e := api.Errno(-2); e < 20; e++ {
			want := report.Summary{Steps: 2, Most: 2}
			at := kind
			if kind < 1 || kind > 18 {
				at = 0
			}
			want.Kinds[at] = 2
			if e >= 0 && e <= 16 {
				want.Errors[e] = 2
			}
			o := sample.Step(kind, "a", "longer")
			if s, e := report.Sum([]api.Op{o, o}, []model.Answer{{E: e, Data: []byte("12")}, {E: e, Data: []byte("1")}}); s != want || e != api.OK {
				t.Errorf("kind %d: %v %d, not %v", kind, s, e, want)
			}
		}
	}
	for _, kind := range []int{math.MinInt, math.MaxInt} {
		s, _ := report.Sum([]api.Op{{Kind: kind}}, []model.Answer{{E: api.Errno(kind)}})
		if s.Kinds[0] != 1 || s.Errors != [17]int{} {
			t.Errorf("%v", s)
		}
	}
}

func TestPlay(t *testing.T) {
	b, _ := script.Put([]api.Op{sample.Step(model.Create, "", ""), sample.Step(model.Open, "", ""), sample.Step(model.Get, "a", "")})
	if s, e := report.Play(100, b); s != "create: ok\nopen: ok 0x\nget a: notfound\n" || e != api.OK {
		t.Errorf("the tenth example: %q %d", s, e)
	}
	l := []api.Op{
		sample.Step(model.Create, "", ""), sample.Step(model.Open, "", ""), sample.Step(model.Put, "a/b", "data"), sample.Step(model.Get, "a/b", ""), sample.Step(model.List, "a", ""),
		{Kind: model.Refuse, Data: []byte{1}}, sample.Step(model.Sync, "", ""), sample.Step(model.Stat, "a/b", ""), {}, sample.Step(model.Crash, "", ""), sample.Step(model.Open, "", ""), sample.Step(model.Verify, "", ""),
	}
	want := "create: ok\nopen: ok 0x\nput a/b: ok\nget a/b: ok 4b\nlist a: ok 1x\nrefuse: ok\nsync: io refused poisoned\nstat a/b: ok 4b poisoned\nnone: arg poisoned\ncrash: ok\nopen: ok 0x\nverify: ok 0x\n"
	b, _ = script.Put(l)
	if s, e := report.Play(100, b); s != want || e != api.OK {
		t.Errorf("%q %d, not %q", s, e, want)
	}
	if s, e := report.Play(2, b[:2+11]); s != "" || e != api.ErrEnd {
		t.Errorf("cut: %q %d", s, e)
	}
	b[0] = 1
	if s, e := report.Play(2, b[:2+11]); s != "create: nospace refused\n" || e != api.OK {
		t.Errorf("without room: %q %d", s, e)
	}
	for _, b := range [][]byte{nil, {1}, {201, 0}, {0, 0, 0}} {
		_, want := play.Bytes(100, b)
		if s, e := report.Play(100, b); s != "" || e != want || e == api.OK {
			t.Errorf("%v: %q %d, not %d", b, s, e, want)
		}
	}
	if s, e := report.Play(100, []byte{0, 0}); s != "" || e != api.OK {
		t.Errorf("no steps: %q %d", s, e)
	}
}

// 33.3

func TestWordsAreOnesAlone(t *testing.T) {
	often := map[string]int{}
	for kind := range 19 {
		often["kind "+report.Word(kind)]++
	}
	for e := range api.Errno(18) {
		often["error "+report.Code(e)]++
	}
	if len(often) != 19+18 {
		t.Errorf("%v", often)
	}
}

func TestKindsAreAsManyAsSteps(t *testing.T) {
	dice := sample.Dice(33)
	for range 100 {
		var l []api.Op
		for range dice(60) {
			l = append(l, sample.Step(dice(25)-2, "a", "x"))
		}
		a := play.Run(20, l)
		s, e := report.Sum(l, a)
		kinds, errors := 0, 0
		for _, n := range s.Kinds {
			kinds += n
		}
		for _, n := range s.Errors {
			errors += n
		}
		if e != api.OK || kinds != len(l) || errors != len(l) || s.Steps != len(l) {
			t.Fatal(fmt.Sprint(s, e, len(l)))
		}
	}
}

func TestNothingIsChanged(t *testing.T) {
	l := []api.Op{sample.Step(model.Get, "a", "data")}
	a := []model.Answer{{Data: []byte("data"), Names: []string{"n"}}}
	report.Text(l, a)
	report.Sum(l, a)
	report.Line(l[0], a[0])
	if string(l[0].Data) != "data" || string(a[0].Data) != "data" || a[0].Names[0] != "n" {
		t.Error("what is handed in is changed")
	}
}
