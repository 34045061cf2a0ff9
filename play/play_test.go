package play_test

import (
	"bytes"
	"fmt"
	"math"
	"slices"
	"strings"
	"testing"

	"bindle/api"
	"bindle/archive"
	"bindle/commit"
	"bindle/crashfs"
	"bindle/crc"
	"bindle/model"
	"bindle/play"
	"bindle/record"
	"bindle/salvage"
	"bindle/sample"
	"bindle/scan"
	"bindle/script"
	"bindle/space"
	"bindle/verify"
)

var step = sample.Step

func same(a, b model.Answer) bool {
	return a.E == b.E && bytes.Equal(a.Data, b.Data) && a.Size == b.Size && slices.Equal(a.Names, b.Names) && model.Same(a.Files, b.Files) && a.Refused == b.Refused && a.Poisoned == b.Poisoned
}

func sameAll(a, b []model.Answer) bool {
	return slices.EqualFunc(a, b, same)
}

// told is a step, and what it should be answered.
type told struct {
	o api.Op
	x model.Answer
}

func wantTold(t *testing.T, what string, s *play.Stage, l ...told) {
	t.Helper()
	for i, x := range l {
		if got := s.Step(x.o); !same(got, x.x) {
			t.Errorf("%s, step %d, kind %d: %v, not %v", what, i, x.o.Kind, got, x.x)
		}
	}
}

// plain is a step of a Kind alone, and the error that it should be answered.
func plain(kind int, e api.Errno) told {
	return told{step(kind, "", ""), model.Answer{E: e}}
}

// opened is a stage with an archive that is open, and has files.
func opened(t *testing.T, l ...api.File) *play.Stage {
	t.Helper()
	s := play.New(2000, "a")
	wantTold(t, "opened", s, plain(model.Create, api.OK), plain(model.Open, api.OK))
	for _, f := range l {
		wantTold(t, "opened", s, told{step(model.Put, f.Name, string(f.Data)), model.Answer{}})
	}
	return s
}

// 32.1

func TestAnswers(t *testing.T) {
	files := []api.File{sample.File("a/x", "1234"), sample.File("b", "22")}
	fine := model.Answer{}
	s := play.New(100, "a")
	wantTold(t, "by hand", s,
		plain(model.Open, api.ErrNotFound),
		plain(model.Verify, api.ErrNotFound),
		plain(model.Create, api.OK),
		plain(model.Create, api.ErrExists),
		plain(model.Verify, api.OK),
		plain(model.Open, api.OK),
		plain(model.Open, api.ErrBusy),
		told{step(model.Put, "b", "22"), fine},
		told{step(model.Put, "a//b", "22"), model.Answer{E: api.ErrName}},
		told{step(model.Write, "", "x"), model.Answer{E: api.ErrNoStream}},
		plain(model.Finish, api.ErrNoStream),
		plain(model.Abort, api.ErrNoStream),
		told{step(model.Begin, "a/x", ""), fine},
		told{step(model.Put, "c", ""), model.Answer{E: api.ErrBusy}},
		told{step(model.Write, "other", "12"), fine},
		told{step(model.Write, "", "34"), fine},
		plain(model.Close, api.ErrBusy),
		plain(model.Sync, api.ErrBusy),
		told{step(model.Get, "a/x", ""), model.Answer{E: api.ErrNotFound}},
		plain(model.Finish, api.OK),
		told{step(model.Get, "a/x", ""), model.Answer{Data: []byte("1234")}},
		told{step(model.Get, "c", ""), model.Answer{E: api.ErrNotFound}},
		told{step(model.Stat, "a/x", ""), model.Answer{Size: 4}},
		told{step(model.Stat, "c", ""), model.Answer{E: api.ErrNotFound}},
		told{step(model.List, "", ""), model.Answer{Names: []string{"a/x", "b"}}},
		told{step(model.List, "a", ""), model.Answer{Names: []string{"a/x"}}},
		told{step(model.List, "a//", ""), fine},
		told{step(model.Begin, "d", ""), fine},
		plain(model.Abort, api.OK),
		told{step(model.Delete, "d", ""), model.Answer{E: api.ErrNotFound}},
		plain(model.Verify, api.OK),
		plain(model.Sync, api.OK),
		told{step(model.Verify, "", ""), model.Answer{Files: files}},
		told{step(model.Delete, "b", ""), fine},
		plain(model.Vacuum, api.OK),
		told{step(model.Verify, "", ""), model.Answer{Files: files[:1]}},
		plain(model.Close, api.OK),
		plain(model.Close, api.ErrClosed),
		told{step(model.Verify, "", ""), model.Answer{Files: files[:1]}},
		told{step(model.Open, "", ""), model.Answer{Files: files[:1]}},
		plain(model.Crash, api.OK),
		told{step(model.Get, "a/x", ""), model.Answer{E: api.ErrClosed}},
		told{step(model.Open, "", ""), model.Answer{Files: files[:1]}},
	)
}

func TestTheExample(t *testing.T) {
	wantTold(t, "the example", play.New(9, "a"), plain(model.Create, api.OK), plain(model.Open, api.OK), told{step(model.Put, "a", ""), model.Answer{}})
}

// openKinds are those of steps that need an archive that is open.
func openKinds() []int {
	return []int{model.Put, model.Begin, model.Write, model.Finish, model.Abort, model.Get, model.Stat, model.List, model.Delete, model.Sync, model.Vacuum, model.Close}
}

func TestNoneIsOpen(t *testing.T) {
	closed := opened(t, sample.File("a", "1"))
	wantTold(t, "Close", closed, plain(model.Close, api.OK))
	crashed := opened(t, sample.File("a", "1"))
	wantTold(t, "Crash", crashed, plain(model.Crash, api.OK))
	for what, s := range map[string]*play.Stage{"at first": play.New(9, "a"), "closed": closed, "crashed": crashed} {
		all, _ := s.FS().Calls()
		for _, kind := range openKinds() {
			wantTold(t, what, s, told{step(kind, "a", "x"), model.Answer{E: api.ErrClosed}}, told{step(kind, "a//b", ""), model.Answer{E: api.ErrClosed}})
		}
		if now, _ := s.FS().Calls(); now != all {
			t.Errorf("%s: calls of what isn't open", what)
		}
	}
}

func TestOtherKinds(t *testing.T) {
	for _, s := range []*play.Stage{play.New(9, "a"), opened(t)} {
		for _, kind := range []int{math.MinInt, -1, 0, 19, 20, 255, math.MaxInt} {
			wantTold(t, "no kind", s, told{step(kind, "a", "x"), model.Answer{E: api.ErrArg}})
		}
	}
}

// The levels of Put, and of Vacuum, are N.
func TestLevels(t *testing.T) {
	text := strings.Repeat("text ", 300)
	for _, level := range []int{-1, 0, 3} {
		f := crashfs.New(2000)
		archive.Create(f, "a")
		a, _ := archive.Open(f, "a")
		a.Put("a", []byte(text), level)
		a.Close()
		s := opened(t)
		put := step(model.Put, "a", text)
		put.N = level
		wantTold(t, "Put", s, told{put, model.Answer{}}, plain(model.Close, api.OK))
		if !bytes.Equal(sample.Content(s.FS(), "a"), sample.Content(f, "a")) {
			t.Errorf("Put, level %d: other bytes", level)
		}
		a, _ = archive.Open(f, "a")
		a.Vacuum(2 - level)
		vacuum := step(model.Vacuum, "", "")
		vacuum.N = 2 - level
		wantTold(t, "Vacuum", s, told{step(model.Open, "", ""), model.Answer{Files: []api.File{sample.File("a", text)}}}, told{vacuum, model.Answer{}})
		if !bytes.Equal(sample.Content(s.FS(), "a"), sample.Content(f, "a")) {
			t.Errorf("Vacuum, level %d: other bytes", 2-level)
		}
	}
}

func TestNew(t *testing.T) {
	s := play.New(9, "b")
	if s.FS() == nil || len(s.FS().Names()) != 0 {
		t.Error("the file system isn't empty")
	}
	wantTold(t, "another name", s, plain(model.Create, api.OK))
	if l := s.FS().Names(); !slices.Equal(l, []string{"b"}) {
		t.Errorf("names: %q", l)
	}
	wantTold(t, "no name", play.New(9, ""), plain(model.Create, api.ErrName), plain(model.Open, api.ErrNotFound), plain(model.Verify, api.ErrNotFound))
	for _, capacity := range []int{math.MinInt, -1, 0, 1, 2} {
		wantTold(t, "without room", play.New(capacity, "a"), told{step(model.Create, "", ""), model.Answer{E: api.ErrNoSpace, Refused: true}}, plain(model.Open, api.ErrNotFound))
	}
	wantTold(t, "with room", play.New(3, "a"), plain(model.Create, api.OK))
	wantTold(t, "with more", play.New(math.MaxInt, "a"), plain(model.Create, api.OK))
}

// Its file system is the stage's own: what is done with it is told.
func TestFS(t *testing.T) {
	s := opened(t)
	all, _ := s.FS().Calls()
	s.FS().Refuse([]int{all + 1})
	wantTold(t, "refused", s, told{step(model.Put, "a", "x"), model.Answer{E: api.ErrIO, Refused: true}}, told{step(model.Put, "a", "x"), model.Answer{}})
	s.FS().Write(0, 0, make([]byte, 1024))
	s.FS().Sync(0)
	wantTold(t, "without slots", s, plain(model.Verify, api.ErrForm), plain(model.Crash, api.OK), plain(model.Open, api.ErrForm))
}

func TestANilStage(t *testing.T) {
	var s *play.Stage
	if s.FS() != nil {
		t.Error("it has a file system")
	}
	for kind := -1; kind < 20; kind++ {
		wantTold(t, "nil", s, told{step(kind, "a", "x"), model.Answer{E: api.ErrArg}})
	}
}

// What Files refuses isn't told of an Open that is OK, and no file is.
func TestOpenOfWhatIsSpoilt(t *testing.T) {
	s := opened(t, sample.File("a", "1"), sample.File("b", "2"))
	wantTold(t, "Close", s, plain(model.Close, api.OK))
	s.FS().Write(0, 1024+23, []byte("3"))
	wantTold(t, "spoilt", s,
		plain(model.Open, api.OK),
		told{step(model.Get, "a", ""), model.Answer{E: api.ErrSum}},
		told{step(model.Get, "b", ""), model.Answer{Data: []byte("2")}},
		plain(model.Verify, api.ErrSum),
	)
}

func refuse(behind ...byte) api.Op {
	return api.Op{Kind: model.Refuse, Data: behind}
}

// of is which of the next calls are refused, if each step of a list makes one.
func of(s *play.Stage, n int) []int {
	var l []int
	for i := range n {
		_, ahead := s.FS().Calls()
		s.FS().SyncDir()
		if _, behind := s.FS().Calls(); behind > ahead {
			l = append(l, i)
		}
	}
	return l
}

func TestRefuse(t *testing.T) {
	for _, x := range []struct {
		behind []byte
		want   []int
	}{
		{nil, nil},
		{[]byte{0}, []int{0}},
		{[]byte{1}, []int{1}},
		{[]byte{4, 0, 4, 7}, []int{0, 4, 7}},
		{[]byte{255, 254}, []int{254, 255}},
	} {
		for _, s := range []*play.Stage{play.New(9, "a"), opened(t)} {
			wantTold(t, "Refuse", s, told{refuse(x.behind...), model.Answer{}})
			if l := of(s, 600); !slices.Equal(l, x.want) {
				t.Errorf("Refuse of %v: %v", x.behind, l)
			}
		}
	}
	s := play.New(9, "a")
	wantTold(t, "no more", s, told{refuse(0, 3), model.Answer{}}, told{refuse(1), model.Answer{}})
	if l := of(s, 9); !slices.Equal(l, []int{1}) {
		t.Errorf("a further Refuse: %v", l)
	}
	wantTold(t, "none", s, told{refuse(0, 3), model.Answer{}}, told{refuse(), model.Answer{}})
	if l := of(s, 9); len(l) != 0 {
		t.Errorf("Refuse of none: %v", l)
	}
}

func TestCut(t *testing.T) {
	for n, want := range map[int]int{0: 0, 1: 1, 255: 255, 256: 0, -1: 0, math.MinInt: 0, math.MaxInt: 0} {
		s := play.New(9, "a")
		wantTold(t, "Cut", s, told{refuse(0, 1), model.Answer{}}, told{api.Op{Kind: model.Cut, N: n}, model.Answer{}})
		l := of(s, 900)
		if len(l) != 300 || l[0] != want || l[299] != want+299 {
			t.Errorf("Cut of %d: %d calls", n, len(l))
		}
	}
}

func TestCrash(t *testing.T) {
	// Kept is what was put, and not synced, in its sector; the file's name, and its first sectors, are safe.
	steps := func(keep ...bool) []told {
		return []told{
			plain(model.Create, api.OK), plain(model.Open, api.OK),
			{step(model.Put, "x", "data"), model.Answer{}},
			{refuse(0), model.Answer{}},
			{api.Op{Kind: model.Crash, C: api.Crash{Keep: keep, Names: 1, Fill: 9}}, model.Answer{}},
		}
	}
	for _, keep := range [][]bool{nil, {false}, {true}, {true, true}} {
		s := play.New(9, "a")
		wantTold(t, "Crash", s, steps(keep...)...)
		f := crashfs.New(9)
		archive.Create(f, "a")
		a, _ := archive.Open(f, "a")
		a.Put("x", []byte("data"), 0)
		f.Crash(api.Crash{Keep: keep, Names: 1, Fill: 9})
		if !bytes.Equal(sample.Content(s.FS(), "a"), sample.Content(f, "a")) {
			t.Errorf("%v: other bytes", keep)
		}
		wantTold(t, "behind it nothing is refused", s, plain(model.Open, api.OK))
	}
}

func TestRefusedAndPoisoned(t *testing.T) {
	refused := model.Answer{E: api.ErrIO, Refused: true}
	poisoned := model.Answer{E: api.ErrIO, Refused: true, Poisoned: true}
	still := model.Answer{E: api.ErrPoisoned, Poisoned: true}
	s := opened(t, sample.File("a", "1"))
	wantTold(t, "refused", s,
		told{refuse(0), model.Answer{}},
		told{step(model.Put, "b", "2"), refused},
		told{refuse(1), model.Answer{}},
		told{step(model.Sync, "", ""), poisoned},
		told{step(model.Put, "b", "2"), still},
		told{step(model.Get, "a", ""), model.Answer{Data: []byte("1"), Poisoned: true}},
		told{step(model.Get, "b", ""), model.Answer{E: api.ErrNotFound, Poisoned: true}},
		told{step(model.List, "", ""), model.Answer{Names: []string{"a"}, Poisoned: true}},
		told{step(model.Open, "", ""), model.Answer{E: api.ErrBusy, Poisoned: true}},
		told{step(model.Verify, "", ""), model.Answer{Poisoned: true}},
		told{step(model.Refuse, "", ""), model.Answer{Poisoned: true}},
		told{step(0, "", ""), model.Answer{E: api.ErrArg, Poisoned: true}},
		plain(model.Close, api.ErrPoisoned),
		plain(model.Close, api.ErrClosed),
		told{refuse(0, 1), model.Answer{}},
		told{step(model.Open, "", ""), refused},
		told{step(model.Open, "", ""), refused},
		plain(model.Open, api.OK),
		told{refuse(0), model.Answer{}},
		told{step(model.Put, "b", "2"), refused},
		told{step(model.Put, "b", "2"), model.Answer{}},
		told{refuse(3), model.Answer{}},
		told{step(model.Close, "", ""), refused},
		plain(model.Close, api.ErrClosed),
	)
	// A call that is refused, though the step is not: the image's Remove, behind its Write.
	s = opened(t)
	wantTold(t, "a step with two refused calls", s, told{refuse(1, 2), model.Answer{}}, told{step(model.Vacuum, "", ""), refused}, plain(model.Vacuum, api.OK))
}

func TestStepsKeepNothingThatIsHandedIn(t *testing.T) {
	s := opened(t)
	o := step(model.Put, "a", "data")
	wantTold(t, "Put", s, told{o, model.Answer{}})
	clear(o.Data)
	o = step(model.Begin, "b", "")
	more := step(model.Write, "", "more")
	wantTold(t, "stream", s, told{o, model.Answer{}}, told{more, model.Answer{}})
	clear(more.Data)
	behind := refuse(3, 5)
	wantTold(t, "Refuse", s, told{behind, model.Answer{}})
	clear(behind.Data)
	wantTold(t, "stream", s, plain(model.Finish, api.OK))
	first, second := s.Step(step(model.Get, "a", "")), s.Step(step(model.Get, "a", ""))
	clear(first.Data)
	if string(second.Data) != "data" {
		t.Error("two answers share memory")
	}
	wantTold(t, "Sync", s, told{step(model.Sync, "", ""), model.Answer{E: api.ErrIO, Refused: true, Poisoned: true}}, plain(model.Close, api.ErrPoisoned))
	o = api.Op{Kind: model.Crash, C: api.Crash{Keep: slices.Repeat([]bool{true}, 20)}}
	wantTold(t, "Crash", s, told{o, model.Answer{}})
	if !o.C.Keep[0] || !o.C.Keep[19] {
		t.Error("Keep is changed")
	}
}

// 32.2

// changing are steps that change an archive in all ways, and make it safe again and again.
func changing() []api.Op {
	long := strings.Repeat("0123456789", 70)
	return []api.Op{
		step(model.Create, "", ""), step(model.Open, "", ""),
		step(model.Put, "a", "first"), step(model.Sync, "", ""),
		step(model.Put, "b", long), step(model.Begin, "c", ""), step(model.Write, "", "one"), step(model.Write, "", long), step(model.Finish, "", ""),
		step(model.Sync, "", ""), step(model.Delete, "a", ""), step(model.Put, "b", "new"),
		step(model.Vacuum, "", ""), step(model.Put, "a", long), step(model.Close, "", ""),
		step(model.Open, "", ""), step(model.Delete, "c", ""), step(model.Sync, "", ""),
	}
}

// staged is what steps are answered by a new stage, one by one.
func staged(capacity int, l []api.Op) []model.Answer {
	s := play.New(capacity, "a")
	var all []model.Answer
	for _, o := range l {
		all = append(all, s.Step(o))
	}
	return all
}

// copied is steps that share nothing with others.
func copied(l []api.Op) []api.Op {
	b, _ := script.Put(l)
	l, _ = script.Take(b)
	return l
}

// spoil changes all of steps.
func spoil(l []api.Op) {
	for i := range l {
		clear(l[i].Data)
		clear(l[i].C.Keep)
	}
	clear(l)
}

// wantPlays holds all that plays steps against a stage.
func wantPlays(t *testing.T, what string, capacity int, l []api.Op) {
	t.Helper()
	want := staged(capacity, l)
	kept := copied(l)
	if got := play.Run(capacity, l); !sameAll(got, want) {
		t.Errorf("%s: Run: %v, not %v", what, got, want)
	}
	b, _ := script.Put(l)
	if got, e := play.Bytes(capacity, b); !sameAll(got, want) || e != api.OK {
		t.Errorf("%s: Bytes: %v %d, not %v", what, got, e, want)
	}
	n := 0
	for i, x := range play.Each(capacity, l) {
		if i != n || !same(x, want[i]) {
			t.Errorf("%s: Each: %d %v, not %d %v", what, i, x, n, want[n])
		}
		n++
	}
	if n != len(l) {
		t.Errorf("%s: Each: %d, not %d", what, n, len(l))
	}
	if n, ok := play.Check(capacity, l); n != len(l) || !ok {
		t.Errorf("%s: Check: %d %t, not %d", what, n, ok, len(l))
	}
	if !slices.EqualFunc(l, kept, script.Same) {
		t.Errorf("%s: the steps are changed", what)
	}
}

func TestRun(t *testing.T) {
	for _, capacity := range []int{-1, 0, 2, 3, 4, 5, 8, 2000} {
		wantPlays(t, "no steps", capacity, nil)
		wantPlays(t, "steps", capacity, changing())
	}
	crash := api.Op{Kind: model.Crash, C: api.Crash{Keep: []bool{true, false, true}, Names: 1, Fill: 3}}
	l := changing()
	wantPlays(t, "all kinds", 100, slices.Concat(l[:9], []api.Op{{Kind: model.Refuse, Data: []byte{1, 3}}}, l[9:], []api.Op{crash, step(model.Open, "", ""), step(model.Verify, "", ""), {Kind: model.Cut, N: 2}}, l[5:], []api.Op{{Kind: 19}, {Kind: -0}}))
}

// The archive of a script is of the name a: a file of another one beside it would have room of its own.
func TestTheNameOfAScriptsArchive(t *testing.T) {
	l := play.Run(3, changing()[:2])
	s := play.New(3, "a")
	if !sameAll(l, []model.Answer{s.Step(changing()[0]), s.Step(changing()[1])}) {
		t.Errorf("%v", l)
	}
}

func TestEachIsLeft(t *testing.T) {
	l := changing()
	for n := range l {
		seen := 0
		for i := range play.Each(100, l) {
			seen++
			if i == n {
				break
			}
		}
		if seen != n+1 {
			t.Errorf("left behind %d: %d told", n, seen)
		}
	}
}

// An iterator tells the same each time, whatever is done with the steps, and with what it told, since.
func TestEachKeepsNothingThatIsHandedIn(t *testing.T) {
	// The last call of a Sync is refused, and what waits is kept: what was to be safe is found.
	l := append(changing(), step(model.Get, "a", ""), step(model.Put, "kept", ""), refuse(3), step(model.Sync, "", ""),
		api.Op{Kind: model.Crash, C: api.Crash{Keep: slices.Repeat([]bool{true}, 9)}}, step(model.Open, "", ""))
	want := staged(100, l)
	if n := len(want[len(l)-1].Files); n != 3 {
		t.Fatalf("%d files are found", n)
	}
	all := play.Each(100, l)
	spoil(l)
	for range 2 {
		var got []model.Answer
		for _, x := range all {
			got = append(got, x)
		}
		if !sameAll(got, want) {
			t.Fatalf("%v, not %v", got, want)
		}
		for _, x := range got {
			clear(x.Data)
			clear(x.Names)
			for _, f := range x.Files {
				clear(f.Data)
			}
			clear(x.Files)
		}
	}
}

// Beyond what is promised an archive is full sooner than the model knows: Check tells the first such answer.
func TestCheckTellsTheFirstThatMayNotBe(t *testing.T) {
	l := []api.Op{step(model.Create, "", ""), step(model.Open, "", "")}
	for range 40 {
		o := step(model.Put, "a", string(make([]byte, 65536)))
		o.N = -1
		l = append(l, o)
	}
	// So many records have room, with a directory of one name behind them.
	n := (space.Most - api.Begin - space.Foot - space.Row - 1) / (space.Fixed + 1 + 65536)
	if at, ok := play.Check(65536, l); at != 2+n || ok {
		t.Errorf("%d %t, not %d", at, ok, 2+n)
	}
	if at, ok := play.Check(65536, l[:2+n]); at != 2+n || !ok {
		t.Errorf("%d %t of %d", at, ok, 2+n)
	}
	if e := play.Run(65536, l)[2+n].E; e != api.ErrLimit {
		t.Errorf("%d", e)
	}
}

func TestBytesRefused(t *testing.T) {
	for _, b := range [][]byte{nil, {1}, {1, 0}, {201, 0}, {0, 0, 0}} {
		_, want := script.Take(b)
		if l, e := play.Bytes(9, b); len(l) != 0 || e != want || e == api.OK {
			t.Errorf("%v: %v %d, not %d", b, l, e, want)
		}
	}
	if l, e := play.Bytes(9, []byte{0, 0}); len(l) != 0 || e != api.OK {
		t.Errorf("no steps: %v %d", l, e)
	}
}

// 32.3, and what the whole promises

// thrown is a step of any kind.
func thrown(dice func(int) int) api.Op {
	names := []string{"a", "a/b", "a/c", "b", "a//b"}
	o := api.Op{Kind: dice(20), Name: names[dice(5)], N: dice(5) - 1}
	if dice(2) == 0 {
		o.Kind = []int{model.Open, model.Put, model.Begin, model.Write, model.Finish, model.Sync}[dice(6)]
	}
	switch o.Kind {
	case model.Put, model.Write:
		o.Data = bytes.Repeat(sample.Bytes(dice(50), uint32(dice(999))), dice(30))
		if dice(200) == 0 {
			o.Data = sample.Bytes(65530+dice(12), uint32(dice(999)))
		}
	case model.List:
		o.Name = []string{"", "a", "b", "a//b"}[dice(4)]
	case model.Refuse:
		o.Data = make([]byte, dice(4))
		for i := range o.Data {
			o.Data[i] = byte(dice(9))
		}
	case model.Cut:
		o.N = dice(9) - 1
	case model.Crash:
		o.C = crash(dice)
	}
	return o
}

// crash is one that keeps anything.
func crash(dice func(int) int) api.Crash {
	c := api.Crash{Keep: make([]bool, dice(20)), Names: dice(5), Fill: byte(dice(256))}
	odds := 1 + dice(4)
	for i := range c.Keep {
		c.Keep[i] = dice(odds) == 0
	}
	return c
}

func TestEveryAnswerMayBeGiven(t *testing.T) {
	often := map[string]int{}
	for seed := range uint32(1500) {
		dice := sample.Dice(seed)
		var l []api.Op
		if dice(4) > 0 {
			l = changing()[:2]
		}
		for len(l) < 60 {
			l = append(l, thrown(dice))
		}
		capacity := []int{4, 6, 10, 20, 60, 2000}[dice(6)]
		if n, ok := play.Check(capacity, l); !ok || n != len(l) {
			x := play.Run(capacity, l[:n+1])[n]
			t.Fatalf("seed %d, step %d, kind %d: error %d, refused %t, poisoned %t, %d files", seed, n, l[n].Kind, x.E, x.Refused, x.Poisoned, len(x.Files))
		}
		for i, x := range play.Each(capacity, l) {
			often[fmt.Sprint(l[i].Kind, x.E)]++
			if x.Poisoned {
				often["poisoned"]++
			}
		}
	}
	// It is no play, if things that matter don't come about.
	for _, what := range []string{"poisoned", fmt.Sprint(model.Sync, api.OK), fmt.Sprint(model.Sync, api.ErrIO), fmt.Sprint(model.Put, api.ErrNoSpace), fmt.Sprint(model.Open, api.ErrNotFound), fmt.Sprint(model.Vacuum, api.ErrIO), fmt.Sprint(model.Vacuum, api.OK), fmt.Sprint(model.Close, api.ErrPoisoned), fmt.Sprint(model.Finish, api.OK), fmt.Sprint(model.Finish, api.ErrIO)} {
		if often[what] < 20 {
			t.Errorf("kind and error %s: but %d times", what, often[what])
		}
	}
}

// 0.1: without a refused call, and without a crash, every answer is that of a map from names to data.
func TestAMapAnswers(t *testing.T) {
	for seed := range uint32(100) {
		dice := sample.Dice(seed)
		s := opened(t)
		all := map[string]string{}
		for range 50 {
			o := thrown(dice)
			switch o.Kind {
			case model.Put:
				x := s.Step(o)
				if x.E == api.OK {
					all[o.Name] = string(o.Data)
				} else if x.E != api.ErrName && x.E != api.ErrSize || x.E == api.ErrName && o.Name != "a//b" {
					t.Fatalf("seed %d: Put: %d", seed, x.E)
				}
			case model.Delete:
				want := model.Answer{}
				if _, there := all[o.Name]; !there {
					want.E = api.ErrNotFound
				}
				wantTold(t, "Delete", s, told{o, want})
				delete(all, o.Name)
			case model.Vacuum, model.Sync:
				wantTold(t, "Vacuum, Sync", s, told{o, model.Answer{}})
			case model.Close:
				wantTold(t, "Close", s, told{o, model.Answer{}}, told{step(model.Open, "", ""), model.Answer{Files: sample.Files(all)}})
			}
			for _, f := range sample.Files(all) {
				wantTold(t, "Get", s, told{step(model.Get, f.Name, ""), model.Answer{Data: f.Data}}, told{step(model.Stat, f.Name, ""), model.Answer{Size: len(f.Data)}})
			}
		}
	}
}

// must takes a step and its answer, which may be given.
func must(t *testing.T, m *model.Model, o api.Op, x model.Answer) {
	t.Helper()
	if !m.Step(o, x) {
		t.Fatalf("kind %d: error %d, %d files", o.Kind, x.E, len(x.Files))
	}
}

// 0.2: whenever the power goes, and whatever is kept of what waits, the next Open finds what may be, and changes no byte.
func TestThePowerGoesAnywhere(t *testing.T) {
	for n := 0; ; n++ {
		// From one call on all are refused, as if there were no power any more.
		l := append([]api.Op{{Kind: model.Cut, N: n}}, changing()...)
		run := func() (*play.Stage, *model.Model) {
			s, m := play.New(400, "a"), model.New()
			for _, o := range l {
				must(t, m, o, s.Step(o))
			}
			return s, m
		}
		s, m := run()
		_, refused := s.FS().Calls()
		waiting := s.FS().Waiting()
		for pattern := range 64 {
			if pattern > 0 {
				s, m = run()
			}
			keep := make([]bool, waiting)
			for i := range keep {
				keep[i] = pattern>>(i%4)&1 > 0
			}
			o := api.Op{Kind: model.Crash, C: api.Crash{Keep: keep, Names: pattern >> 4, Fill: byte(n)}}
			must(t, m, o, s.Step(o))
			ahead := sample.Content(s.FS(), "a")
			for range 2 {
				must(t, m, step(model.Open, "", ""), s.Step(step(model.Open, "", "")))
				if !bytes.Equal(sample.Content(s.FS(), "a"), ahead) {
					t.Fatal("Open changes bytes")
				}
				o := step(model.Crash, "", "")
				must(t, m, o, s.Step(o))
			}
		}
		if refused == 0 {
			break
		}
	}
}

// data is names and data of members.
func data(t *testing.T, c *crc.Table, b []byte, l []api.Member) []api.File {
	t.Helper()
	var files []api.File
	for _, m := range l {
		d, e := record.Data(c, b, m)
		if e != api.OK {
			t.Fatalf("%q: %d", m.Name, e)
		}
		files = append(files, api.File{Name: m.Name, Data: d})
	}
	return files
}

// wantOneMap holds all that may be found of an archive's bytes against files.
func wantOneMap(t *testing.T, what string, b []byte, want []api.File) {
	t.Helper()
	c := crc.Make()
	s, l, e := commit.Load(&c, b)
	if e != api.OK || !model.Same(data(t, &c, b, l), want) {
		t.Fatalf("%s: Load: %d, %d members", what, e, len(l))
	}
	l, _, e = scan.Live(&c, b, s.End)
	if e != api.OK || !model.Same(data(t, &c, b, l), want) {
		t.Fatalf("%s: a scan: %d, %d members", what, e, len(l))
	}
	files, e := verify.Files(&c, b)
	if e != api.OK || !model.Same(files, want) {
		t.Fatalf("%s: strictly: %d, %d files", what, e, len(files))
	}
	if files := salvage.Files(&c, b[:s.End], 65536); !model.Same(files, want) {
		t.Fatalf("%s: salvaged: %d files", what, len(files))
	}
}

// 0.3: what the slot and the directory say, what a scan finds, what a strict check finds, and what is salvaged up to the End, is one map; Vacuum leaves it.
func TestOneMap(t *testing.T) {
	for seed := range uint32(150) {
		dice := sample.Dice(seed)
		s, m := play.New(2000, "a"), model.New()
		for i := range 60 {
			o := thrown(dice)
			if i < 2 {
				o = step(1+i, "", "")
			}
			x := s.Step(o)
			must(t, m, o, x)
			now, open := m.Now()
			switch {
			case x.E != api.OK:
			case o.Kind == model.Sync, o.Kind == model.Vacuum, o.Kind == model.Open && open:
				wantOneMap(t, "made safe", sample.Content(s.FS(), "a"), now)
				if o.Kind == model.Sync {
					vacuum := step(model.Vacuum, "", "")
					x := s.Step(vacuum)
					must(t, m, vacuum, x)
					if x.E == api.OK {
						wantOneMap(t, "behind a Vacuum", sample.Content(s.FS(), "a"), now)
					}
				}
			}
		}
	}
}

// 0.4: what the strict check takes of any bytes is an archive as one that was made is.
func TestWhatIsCheckedIsAnArchive(t *testing.T) {
	c := crc.Make()
	checked := 0
	for seed := range uint32(400) {
		dice := sample.Dice(seed)
		s := opened(t, sample.File("a", "first"), sample.File("b", strings.Repeat("text ", 20)))
		for range 20 {
			s.Step(thrown(dice))
		}
		b := sample.Content(s.FS(), "a")
		for range 1 + dice(3) {
			if len(b) > 0 {
				b[dice(len(b))] ^= 1 << dice(8)
			}
		}
		salvage.Files(&c, b, 65536)
		files, e := verify.Files(&c, b)
		if e != api.OK {
			continue
		}
		checked++
		wantOneMap(t, "checked", b, files)
		s, m := play.New(2000, "a"), model.New()
		id, _ := s.FS().Create("a")
		s.FS().Write(id, 0, b)
		// The model comes to these files by steps of its own.
		must(t, m, step(model.Create, "", ""), model.Answer{})
		must(t, m, step(model.Open, "", ""), model.Answer{})
		for _, f := range files {
			must(t, m, step(model.Put, f.Name, string(f.Data)), model.Answer{})
		}
		must(t, m, step(model.Close, "", ""), model.Answer{})
		for range 40 {
			o := thrown(dice)
			if _, open := m.Now(); !open {
				o = step(model.Open, "", "")
			}
			must(t, m, o, s.Step(o))
		}
	}
	if checked < 50 {
		t.Errorf("but %d are checked", checked)
	}
}

// 0.6: a file is no longer than what was issued asks for, and twice as many sectors are enough. (0.5 is held by package archive's tests.)
func TestNoMoreRoomThanIssued(t *testing.T) {
	for seed := range uint32(100) {
		// At first there is room for all; then just as much as was asked for at most.
		capacity, most := 20000, 0
		for range 2 {
			dice := sample.Dice(seed)
			s, m := play.New(capacity, "a"), model.New()
			for _, kind := range []int{model.Create, model.Open} {
				must(t, m, step(kind, "", ""), s.Step(step(kind, "", "")))
			}
			var l space.Ledger
			for range 58 {
				o := thrown(dice)
				switch o.Kind {
				case model.Create, model.Open, model.Close, model.Verify, model.Refuse, model.Cut, model.Crash:
					continue
				}
				x := s.Step(o)
				must(t, m, o, x)
				live, _ := m.Now()
				if x.E == api.OK {
					issue(&l, o, live)
				}
				bound := l.Bound(live)
				most = max(most, bound)
				if n := len(sample.Content(s.FS(), "a")) / 512; n > space.Sectors(bound) || x.Refused {
					t.Fatalf("seed %d, kind %d: %d sectors, for %d bytes", seed, o.Kind, n, bound)
				}
			}
			capacity = space.Capacity(most)
		}
	}
}

// issue has in a ledger what a step asks for.
func issue(l *space.Ledger, o api.Op, live []api.File) {
	switch o.Kind {
	case model.Put:
		l.Put(o.Name, len(o.Data))
	case model.Delete:
		l.Delete(o.Name)
	case model.Begin:
		l.Stream(o.Name)
	case model.Write:
		l.More(len(o.Data))
	case model.Vacuum:
		l.Vacuum(live)
	}
}
