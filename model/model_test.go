package model_test

import (
	"bytes"
	"fmt"
	"slices"
	"strings"
	"testing"

	"bindle/api"
	"bindle/model"
	"bindle/sample"
)

func same(a, b []api.File) bool {
	return slices.EqualFunc(a, b, func(x, y api.File) bool { return x.Name == y.Name && string(x.Data) == string(y.Data) })
}

// 25.1

func TestWithAndWithout(t *testing.T) {
	b, d := sample.File("b", "1"), sample.File("d", "22")
	l := []api.File{b, d}
	for _, x := range []struct {
		name string
		with []api.File
		gone []api.File
	}{
		{"a", []api.File{sample.File("a", "new"), b, d}, l},
		{"b", []api.File{sample.File("b", "new"), d}, []api.File{d}},
		{"c", []api.File{b, sample.File("c", "new"), d}, l},
		{"d", []api.File{b, sample.File("d", "new")}, []api.File{b}},
		{"da", []api.File{b, d, sample.File("da", "new")}, l},
		{"", []api.File{sample.File("", "new"), b, d}, l},
	} {
		data := []byte("new")
		with, gone := model.With(l, x.name, data), model.Without(l, x.name)
		if !same(with, x.with) || !same(gone, x.gone) {
			t.Errorf("%q: %v %v", x.name, with, gone)
		}
		spoil(with)
		spoil(gone)
		if string(data) != "new" || !same(l, []api.File{sample.File("b", "1"), sample.File("d", "22")}) {
			t.Fatalf("%q: changed, or not new memory", x.name)
		}
	}
	if with := model.With(nil, "a", nil); len(with) != 1 || with[0].Name != "a" || len(with[0].Data) != 0 {
		t.Error("with of nothing")
	}
	if len(model.Without(nil, "a")) != 0 || len(model.Without([]api.File{b}, "b")) != 0 {
		t.Error("without of nothing")
	}
}

// spoil changes all that files have.
func spoil(l []api.File) {
	for i := range l {
		for j := range l[i].Data {
			l[i].Data[j]++
		}
		l[i].Name = "spoilt"
	}
}

func TestFind(t *testing.T) {
	l := []api.File{sample.File("b", "1"), sample.File("d", "22"), sample.File("e", "")}
	for name, want := range map[string]string{"b": "1", "d": "22", "e": ""} {
		data, there := model.Find(l, name)
		if string(data) != want || !there {
			t.Errorf("Find %q: %q %t", name, data, there)
		}
		clear(data)
	}
	for _, name := range []string{"", "a", "c", "f", "B", "bb"} {
		if data, there := model.Find(l, name); len(data) != 0 || there {
			t.Errorf("Find %q: %q %t", name, data, there)
		}
	}
	if string(l[1].Data) != "22" {
		t.Error("not new memory")
	}
	if _, there := model.Find(nil, "a"); there {
		t.Error("found in nothing")
	}
}

func TestSame(t *testing.T) {
	all := [][]api.File{
		nil, {sample.File("a", "")}, {sample.File("a", "x")}, {sample.File("b", "x")}, {sample.File("a", "xy")}, {sample.File("a", "x"), sample.File("b", "y")}, {sample.File("b", "y"), sample.File("a", "x")},
		{sample.File("a", "x"), sample.File("a", "x")}, {sample.File("a", "x"), sample.File("b", "z")}, {sample.File("", "")},
	}
	for i, a := range all {
		for j, b := range all {
			if model.Same(a, b) != (i == j) {
				t.Errorf("Same(%v, %v)", a, b)
			}
		}
	}
	if !model.Same(nil, []api.File{}) || !model.Same([]api.File{{Name: "a"}}, []api.File{sample.File("a", "")}) {
		t.Error("nil and empty are one")
	}
}

// 25.2

func TestKinds(t *testing.T) {
	kinds := []int{model.Create, model.Open, model.Put, model.Begin, model.Write, model.Finish, model.Abort, model.Get, model.Stat, model.List, model.Delete, model.Sync, model.Vacuum, model.Close, model.Verify, model.Refuse, model.Cut, model.Crash}
	for i, kind := range kinds {
		if kind != i+1 {
			t.Errorf("kind %d is %d", i+1, kind)
		}
	}
}

// known is a model, and how it comes to be.
type known struct {
	what string
	make func() *model.Model
	may  []model.State
	now  []api.File
	open bool
}

func op(kind int, name, data string) api.Op {
	return api.Op{Kind: kind, Name: name, Data: []byte(data), N: 1}
}

// must takes a step that may be.
func must(m *model.Model, o api.Op, a model.Answer) {
	if !m.Step(o, a) {
		panic(fmt.Sprint("may not be: ", o, a))
	}
}

func opened(l ...api.File) *model.Model {
	m := model.New()
	must(m, op(model.Create, "", ""), model.Answer{})
	must(m, op(model.Open, "", ""), model.Answer{})
	for _, f := range l {
		must(m, api.Op{Kind: model.Put, Name: f.Name, Data: f.Data}, model.Answer{})
	}
	must(m, op(model.Sync, "", ""), model.Answer{})
	return m
}

func there(l ...api.File) model.State {
	return model.State{There: true, Files: l}
}

func full() []api.File {
	var l []api.File
	for i := range 200 {
		l = append(l, sample.File(fmt.Sprintf("n%03d", i), "x"))
	}
	return l
}

// refused is the answer of a step in which something was refused.
func refused(poisoned bool) model.Answer {
	return model.Answer{E: api.ErrIO, Refused: true, Poisoned: poisoned}
}

// all are models of every kind that the chapter tells apart.
func all() []known {
	a, b := sample.File("a", "data"), sample.File("b", "old")
	after := func(m *model.Model, steps func(m *model.Model)) *model.Model {
		steps(m)
		return m
	}
	return []known{
		{"a new one", model.New, []model.State{{}}, nil, false},
		{"a Create was refused", func() *model.Model {
			return after(model.New(), func(m *model.Model) { must(m, op(model.Create, "", ""), refused(false)) })
		}, []model.State{{}, there()}, nil, false},
		{"created", func() *model.Model {
			return after(model.New(), func(m *model.Model) { must(m, op(model.Create, "", ""), model.Answer{}) })
		}, []model.State{there()}, nil, false},
		{"open", func() *model.Model {
			return after(opened(b), func(m *model.Model) { must(m, op(model.Put, "a", "data"), model.Answer{}) })
		}, []model.State{there(b)}, []api.File{a, b}, true},
		{"a stream", func() *model.Model {
			return after(opened(b), func(m *model.Model) { must(m, op(model.Begin, "a", ""), model.Answer{}) })
		}, []model.State{there(b)}, []api.File{b}, true},
		{"poisoned", func() *model.Model {
			return after(opened(b), func(m *model.Model) {
				must(m, op(model.Put, "a", "data"), model.Answer{})
				must(m, op(model.Sync, "", ""), refused(true))
			})
		}, []model.State{there(b), there(a, b)}, []api.File{a, b}, true},
		{"a Vacuum was refused", func() *model.Model {
			return after(opened(b), func(m *model.Model) {
				must(m, op(model.Put, "a", "data"), model.Answer{})
				must(m, op(model.Vacuum, "", ""), refused(false))
			})
		}, []model.State{there(b), there(a, b)}, []api.File{a, b}, true},
		{"a Close was refused", func() *model.Model {
			return after(opened(b), func(m *model.Model) {
				must(m, op(model.Delete, "b", ""), model.Answer{})
				must(m, op(model.Close, "", ""), refused(false))
			})
		}, []model.State{there(b), there()}, nil, false},
		{"full", func() *model.Model { return opened(full()...) }, []model.State{there(full()...)}, full(), true},
	}
}

// asked are steps of all kinds.
func asked() []api.Op {
	var l []api.Op
	for kind := -1; kind <= 20; kind++ {
		for _, name := range []string{"a", "b", "a//b", ""} {
			l = append(l, op(kind, name, "data"))
		}
		l = append(l, api.Op{Kind: kind, Name: "a", Data: make([]byte, 65537)}, api.Op{Kind: kind, Name: "a//b", Data: make([]byte, 65537)})
	}
	return append(l, api.Op{Kind: model.Put, Name: "a", Data: make([]byte, 65536)}, op(model.Put, "n007", "data"), op(model.Begin, "n007", ""), op(model.Get, "n007", ""), op(model.Delete, "n007", ""))
}

// errorsOf is which errors the chapter names, of a model that is known, by its words again.
func errorsOf(k known, o api.Op) []api.Errno {
	with, without := false, false
	for _, s := range k.may {
		with, without = with || s.There, without || !s.There
	}
	var l []api.Errno
	add := func(may bool, e api.Errno) {
		if may {
			l = append(l, e)
		}
	}
	first := func(rows ...any) []api.Errno {
		for i := 0; i < len(rows); i += 2 {
			if rows[i].(bool) {
				return []api.Errno{rows[i+1].(api.Errno)}
			}
		}
		return []api.Errno{api.OK}
	}
	stream, poisoned := k.what == "a stream", k.what == "poisoned"
	has := slices.ContainsFunc(k.now, func(f api.File) bool { return f.Name == o.Name })
	wrong := o.Name == "" || o.Name == "a//b"
	switch o.Kind {
	case 1:
		add(without, api.OK)
		add(with, api.ErrExists)
		return l
	case 2, 15:
		if k.open && o.Kind == 2 {
			return []api.Errno{api.ErrBusy}
		}
		add(with, api.OK)
		add(without, api.ErrNotFound)
		return l
	case 16, 17, 18:
		return []api.Errno{api.OK}
	}
	if o.Kind < 1 || o.Kind > 18 {
		return []api.Errno{api.ErrArg}
	}
	shut := !k.open
	switch o.Kind {
	case 3:
		return first(shut, api.ErrClosed, stream, api.ErrBusy, poisoned, api.ErrPoisoned, wrong, api.ErrName, len(o.Data) > 65536, api.ErrSize, !has && len(k.now) == 200, api.ErrLimit)
	case 4:
		return first(shut, api.ErrClosed, stream, api.ErrBusy, poisoned, api.ErrPoisoned, wrong, api.ErrName, !has && len(k.now) == 200, api.ErrLimit)
	case 5:
		return first(shut, api.ErrClosed, !stream, api.ErrNoStream, len(o.Data) > 65536, api.ErrSize)
	case 6, 7:
		return first(shut, api.ErrClosed, !stream, api.ErrNoStream)
	case 8, 9:
		return first(shut, api.ErrClosed, !has, api.ErrNotFound)
	case 11:
		return first(shut, api.ErrClosed, stream, api.ErrBusy, poisoned, api.ErrPoisoned, !has, api.ErrNotFound)
	case 12, 13, 14:
		return first(shut, api.ErrClosed, stream, api.ErrBusy, poisoned, api.ErrPoisoned)
	}
	return first(shut, api.ErrClosed)
}

// poisonMay tells whether it may be told behind a step that the archive is poisoned, or not.
func poisonMay(k known, o api.Op, e api.Errno, refused, poisoned bool) bool {
	left := o.Kind == 18 || o.Kind == 14 && (refused || e == api.OK || e == api.ErrPoisoned)
	switch {
	case !k.open || left:
		return !poisoned
	case refused && o.Kind == 12:
		return poisoned
	case refused && o.Kind == 13:
		return true
	}
	return poisoned == (k.what == "poisoned")
}

// files is the right answer of a step that is OK.
func files(k known, o api.Op) model.Answer {
	a := model.Answer{}
	i := slices.IndexFunc(k.now, func(f api.File) bool { return f.Name == o.Name })
	switch o.Kind {
	case 2, 15:
		for _, s := range k.may {
			if s.There {
				a.Files = s.Files
			}
		}
	case 8:
		a.Data = k.now[i].Data
	case 9:
		a.Size = len(k.now[i].Data)
	case 10:
		for _, f := range k.now {
			if o.Name == "" || strings.HasPrefix(f.Name, o.Name+"/") {
				a.Names = append(a.Names, f.Name)
			}
		}
	}
	return a
}

func TestWhichAnswersMayBe(t *testing.T) {
	refusable := []int{1, 2, 3, 4, 5, 6, 11, 12, 13, 14}
	for _, k := range all() {
		m := k.make()
		for _, o := range asked() {
			errors := errorsOf(k, o)
			wantKnown(t, m, k)
			for e := api.Errno(-1); e <= 17; e++ {
				for i := range 4 {
					refused, poisoned := i&1 > 0, i&2 > 0
					want := slices.Contains(errors, e)
					a := model.Answer{}
					if refused {
						want = slices.Contains(errors, api.OK) && slices.Contains(refusable, o.Kind) && (e == api.ErrIO || e == api.ErrNoSpace)
					} else if want && e == api.OK {
						a = files(k, o)
					}
					want = want && poisonMay(k, o, e, refused, poisoned)
					a.E, a.Refused, a.Poisoned = e, refused, poisoned
					if m.Step(o, a) != want {
						t.Fatalf("%s: step %d %q: error %d, refused %t, poisoned %t: %t", k.what, o.Kind, o.Name, e, refused, poisoned, !want)
					}
					// Who was refused knows the same as before, and is asked on.
					if want {
						m = k.make()
					}
				}
			}
		}
	}
}

// wantKnown holds what a model knows.
func wantKnown(t *testing.T, m *model.Model, k known) {
	t.Helper()
	l, open := m.Now()
	if !model.Same(l, k.now) || open != k.open {
		t.Fatalf("%s: Now: %d files, %t", k.what, len(l), open)
	}
	for _, s := range []model.State{{}, there(), there(sample.File("b", "old")), there(sample.File("a", "data"), sample.File("b", "old")), there(sample.File("a", "data")), there(full()...), there(full()[1:]...), there(sample.File("b", "other"))} {
		want := slices.ContainsFunc(k.may, func(x model.State) bool { return x.There == s.There && same(x.Files, s.Files) })
		if m.Can(s) != want {
			t.Fatalf("%s: Can(%v): %t", k.what, s, !want)
		}
	}
}

func TestWhatIsKnown(t *testing.T) {
	for _, k := range all() {
		wantKnown(t, k.make(), k)
	}
	if !model.New().Can(model.State{Files: []api.File{sample.File("x", "y")}}) {
		t.Error("of one without an archive Files count")
	}
}

// All else of an answer is zero.
func TestWhatElseIsAnswered(t *testing.T) {
	for _, k := range all() {
		for _, o := range asked() {
			for _, e := range errorsOf(k, o) {
				right := model.Answer{}
				if e == api.OK {
					right = files(k, o)
				}
				right.E, right.Poisoned = e, k.what == "poisoned" && o.Kind != 18 && o.Kind != 14
				for i := range 6 {
					a := right
					switch i {
					case 1:
						a.Data = append(bytes.Clone(a.Data), 0)
					case 2:
						a.Size++
					case 3:
						a.Names = append(slices.Clone(a.Names), "x")
					case 4:
						a.Files = append(slices.Clone(a.Files), sample.File("x", ""))
					case 5:
						a.Size--
					}
					if k.make().Step(o, a) != (i == 0) {
						t.Fatalf("%s: step %d %q: error %d, changed %d: %t", k.what, o.Kind, o.Name, e, i, i > 0)
					}
				}
			}
		}
	}
	for i := range 4 {
		a := model.Answer{E: api.ErrNoSpace, Refused: true, Poisoned: true}
		switch i {
		case 0:
			a.Data = []byte{0}
		case 1:
			a.Size = 1
		case 2:
			a.Names = []string{"b"}
		case 3:
			a.Files = []api.File{sample.File("b", "")}
		}
		if opened(sample.File("b", "")).Step(op(model.Sync, "", ""), a) {
			t.Errorf("refused, and something else: %d", i)
		}
	}
}

func TestAnswersOfReading(t *testing.T) {
	m := func() *model.Model {
		return opened(sample.File("a", "x"), sample.File("f/b", "yy"), sample.File("f/c", ""), sample.File("g", "zzz"))
	}
	for _, x := range []struct {
		o    api.Op
		a    model.Answer
		want bool
	}{
		{op(model.Get, "f/b", ""), model.Answer{Data: []byte("yy")}, true},
		{op(model.Get, "f/b", ""), model.Answer{Data: []byte("yz")}, false},
		{op(model.Get, "f/b", ""), model.Answer{}, false},
		{op(model.Get, "f/c", ""), model.Answer{}, true},
		{op(model.Stat, "g", ""), model.Answer{Size: 3}, true},
		{op(model.Stat, "g", ""), model.Answer{Size: 2}, false},
		{op(model.Stat, "g", ""), model.Answer{Size: 3, Data: []byte("zzz")}, false},
		{op(model.List, "f", ""), model.Answer{Names: []string{"f/b", "f/c"}}, true},
		{op(model.List, "f", ""), model.Answer{Names: []string{"f/c", "f/b"}}, false},
		{op(model.List, "f", ""), model.Answer{Names: []string{"f/b"}}, false},
		{op(model.List, "f/", ""), model.Answer{}, true},
		{op(model.List, "x", ""), model.Answer{}, true},
		{op(model.List, "", ""), model.Answer{Names: []string{"a", "f/b", "f/c", "g"}}, true},
		{op(model.Verify, "", ""), model.Answer{Files: []api.File{sample.File("a", "x"), sample.File("f/b", "yy"), sample.File("f/c", ""), sample.File("g", "zzz")}}, true},
		{op(model.Verify, "", ""), model.Answer{Files: []api.File{sample.File("a", "x"), sample.File("f/b", "yy"), sample.File("f/c", "")}}, false},
		{op(model.Verify, "", ""), model.Answer{}, false},
	} {
		if m().Step(x.o, x.a) != x.want {
			t.Errorf("step %d %q: %v: %t", x.o.Kind, x.o.Name, x.a, !x.want)
		}
	}
}

func wantNow(t *testing.T, m *model.Model, want ...api.File) {
	t.Helper()
	if l, open := m.Now(); !same(l, want) || !open {
		t.Fatalf("Now: %v %t, not %v", l, open, want)
	}
}

func TestWhatStepsLeaveBehind(t *testing.T) {
	a, b, c := sample.File("a", "1"), sample.File("b", "2"), sample.File("c", "34")
	m := opened(b)
	wantNow(t, m, b)
	must(m, op(model.Put, "a", "1"), model.Answer{})
	wantNow(t, m, a, b)
	must(m, op(model.Begin, "c", ""), model.Answer{})
	must(m, op(model.Write, "", "3"), model.Answer{})
	must(m, op(model.Write, "", "lost"), refused(false))
	must(m, op(model.Write, "", ""), model.Answer{})
	must(m, op(model.Write, "", "4"), model.Answer{})
	must(m, op(model.Finish, "", ""), refused(false))
	must(m, op(model.Put, "x", ""), model.Answer{E: api.ErrBusy})
	wantNow(t, m, a, b)
	must(m, op(model.Finish, "other", "other"), model.Answer{})
	wantNow(t, m, a, b, c)
	must(m, op(model.Begin, "a", ""), model.Answer{})
	must(m, op(model.Write, "", "9"), model.Answer{})
	must(m, op(model.Abort, "", ""), model.Answer{})
	must(m, op(model.Finish, "", ""), model.Answer{E: api.ErrNoStream})
	wantNow(t, m, a, b, c)
	must(m, op(model.Begin, "a", ""), refused(false))
	must(m, op(model.Put, "a", "no"), refused(false))
	must(m, op(model.Delete, "a", ""), refused(false))
	wantNow(t, m, a, b, c)
	must(m, op(model.Delete, "b", ""), model.Answer{})
	wantNow(t, m, a, c)
	must(m, op(model.Begin, "e", ""), model.Answer{})
	must(m, op(model.Finish, "", ""), model.Answer{})
	wantNow(t, m, a, c, sample.File("e", ""))
	wantMay(t, m, there(b))
}

// wantMay holds which of many states may be.
func wantMay(t *testing.T, m *model.Model, want ...model.State) {
	t.Helper()
	a, b := sample.File("a", "1"), sample.File("b", "2")
	for _, s := range []model.State{{}, there(), there(a), there(b), there(a, b), there(sample.File("a", "2")), there(b, a)} {
		may := slices.ContainsFunc(want, func(x model.State) bool { return x.There == s.There && same(x.Files, s.Files) })
		if m.Can(s) != may {
			t.Fatalf("Can(%v): %t", s, !may)
		}
	}
}

func TestWhatMayBeFound(t *testing.T) {
	a, b := sample.File("a", "1"), sample.File("b", "2")
	m := model.New()
	wantMay(t, m, model.State{})
	must(m, op(model.Open, "", ""), model.Answer{E: api.ErrNotFound})
	must(m, op(model.Create, "", ""), refused(false))
	must(m, op(model.Create, "", ""), refused(false))
	wantMay(t, m, model.State{}, there())
	must(m, op(model.Verify, "", ""), model.Answer{E: api.ErrNotFound})
	must(m, op(model.Verify, "", ""), model.Answer{})
	must(m, op(model.Open, "", ""), refused(false))
	must(m, op(model.Create, "", ""), model.Answer{E: api.ErrExists})
	wantMay(t, m, model.State{}, there())
	must(m, op(model.Open, "", ""), model.Answer{E: api.ErrNotFound})
	wantMay(t, m, model.State{})
	must(m, op(model.Create, "", ""), refused(false))
	must(m, op(model.Open, "", ""), model.Answer{})
	wantMay(t, m, there())
	must(m, op(model.Put, "a", "1"), model.Answer{})
	wantMay(t, m, there())
	must(m, op(model.Vacuum, "", ""), refused(false))
	wantMay(t, m, there(), there(a))
	must(m, op(model.Put, "b", "2"), model.Answer{})
	must(m, op(model.Sync, "", ""), refused(true))
	wantMay(t, m, there(), there(a), there(a, b))
	must(m, op(model.Get, "a", ""), model.Answer{Data: []byte("1"), Poisoned: true})
	must(m, op(model.Close, "", ""), model.Answer{E: api.ErrPoisoned})
	wantMay(t, m, there(), there(a), there(a, b))
	must(m, op(model.Get, "a", ""), model.Answer{E: api.ErrClosed})
	if m.Step(op(model.Open, "", ""), model.Answer{Files: []api.File{b}}) {
		t.Fatal("Open finds what may not be")
	}
	must(m, op(model.Open, "", ""), model.Answer{Files: []api.File{a}})
	wantMay(t, m, there(a))
	wantNow(t, m, a)
	must(m, op(model.Delete, "a", ""), model.Answer{})
	must(m, op(model.Vacuum, "", ""), refused(true))
	wantMay(t, m, there(a), there())
	must(m, op(model.Put, "b", ""), model.Answer{E: api.ErrPoisoned, Poisoned: true})
	must(m, op(model.Crash, "", ""), model.Answer{})
	must(m, op(model.Open, "", ""), model.Answer{})
	must(m, op(model.Put, "b", "2"), model.Answer{})
	must(m, op(model.Vacuum, "", ""), model.Answer{})
	wantMay(t, m, there(b))
	must(m, op(model.Put, "a", "1"), model.Answer{})
	must(m, op(model.Close, "", ""), model.Answer{})
	wantMay(t, m, there(a, b))
}

func TestStreamsEnd(t *testing.T) {
	for _, kind := range []int{model.Crash, model.Abort} {
		m := opened()
		must(m, op(model.Begin, "a", ""), model.Answer{})
		must(m, op(model.Write, "", "left"), model.Answer{})
		must(m, op(kind, "", ""), model.Answer{})
		if kind == model.Crash {
			must(m, op(model.Open, "", ""), model.Answer{})
		}
		must(m, op(model.Finish, "", ""), model.Answer{E: api.ErrNoStream})
		must(m, op(model.Begin, "b", ""), model.Answer{})
		must(m, op(model.Finish, "", ""), model.Answer{})
		wantNow(t, m, sample.File("b", ""))
	}
}

func TestAStreamsSize(t *testing.T) {
	m := opened()
	must(m, op(model.Begin, "a", ""), model.Answer{})
	write := func(n int, e api.Errno) {
		t.Helper()
		must(m, api.Op{Kind: model.Write, Data: make([]byte, n)}, model.Answer{E: e})
	}
	write(65537, api.ErrSize)
	write(65000, api.OK)
	write(537, api.ErrSize)
	write(536, api.OK)
	write(0, api.OK)
	write(1, api.ErrSize)
	must(m, op(model.Finish, "", ""), model.Answer{})
	wantNow(t, m, sample.File("a", string(make([]byte, 65536))))
}

func TestModelKeepsNothingThatIsHandedIn(t *testing.T) {
	m := opened()
	data := []byte("data")
	must(m, api.Op{Kind: model.Put, Name: "a", Data: data}, model.Answer{})
	must(m, op(model.Begin, "b", ""), model.Answer{})
	must(m, api.Op{Kind: model.Write, Data: data}, model.Answer{})
	must(m, api.Op{Kind: model.Write, Data: data}, model.Answer{})
	must(m, op(model.Finish, "", ""), model.Answer{})
	clear(data)
	want := []api.File{sample.File("a", "data"), sample.File("b", "datadata")}
	wantNow(t, m, want...)
	l, _ := m.Now()
	spoil(l)
	wantNow(t, m, want...)
	must(m, op(model.Close, "", ""), model.Answer{})
	found := []api.File{sample.File("a", "data"), sample.File("b", "datadata")}
	must(m, op(model.Open, "", ""), model.Answer{Files: found})
	spoil(found)
	wantNow(t, m, want...)
	if !m.Can(there(want...)) {
		t.Error("what may be is changed")
	}
}

func TestANilModel(t *testing.T) {
	var m *model.Model
	l, open := m.Now()
	if m.Step(op(model.Crash, "", ""), model.Answer{}) || m.Can(model.State{}) || m.Can(there()) || len(l) != 0 || open {
		t.Error("a nil model knows something")
	}
}

// 25.3

// What was put is got, and nothing else; what was synced is found behind a crash.
func TestAgainstAMap(t *testing.T) {
	dice := sample.Dice(25)
	for range 30 {
		m := opened()
		now, safe := map[string]string{}, map[string]string{}
		for range 80 {
			name := string(rune('a' + dice(4)))
			data, has := now[name]
			switch dice(5) {
			case 0:
				now[name] = strings.Repeat("x", dice(5))
				must(m, op(model.Put, name, now[name]), model.Answer{})
			case 1:
				if has {
					must(m, op(model.Delete, name, ""), model.Answer{})
					delete(now, name)
				} else {
					must(m, op(model.Delete, name, ""), model.Answer{E: api.ErrNotFound})
				}
			case 2:
				right := model.Answer{Data: []byte(data)}
				if !has {
					right.E = api.ErrNotFound
				}
				if m.Step(op(model.Get, name, ""), model.Answer{Data: append([]byte(data), 'y')}) {
					t.Fatal("something else is got")
				}
				must(m, op(model.Get, name, ""), right)
			case 3:
				must(m, op(model.Sync, "", ""), model.Answer{})
				safe = clone(now)
			case 4:
				must(m, op(model.Crash, "", ""), model.Answer{})
				if fmt.Sprint(safe) != fmt.Sprint(now) && m.Step(op(model.Open, "", ""), model.Answer{Files: sample.Files(now)}) {
					t.Fatal("what wasn't synced is found")
				}
				must(m, op(model.Open, "", ""), model.Answer{Files: sample.Files(safe)})
				now = clone(safe)
			}
			wantNow(t, m, sample.Files(now)...)
		}
	}
}

func clone(m map[string]string) map[string]string {
	c := map[string]string{}
	for name, data := range m {
		c[name] = data
	}
	return c
}
