package commit_test

import (
	"bytes"
	"fmt"
	"math"
	"slices"
	"strings"
	"testing"

	"bindle/api"
	"bindle/commit"
	"bindle/crashfs"
	"bindle/crc"
	"bindle/foot"
	"bindle/record"
	"bindle/sample"
	"bindle/scan"
	"bindle/slot"
	"bindle/stone"
)

const (
	most    = 1 << 21
	mostSeq = 1<<31 - 1
)

// records are members' records, of data of some bytes each, and what is live of them.
func records(t *testing.T, sizes ...int) ([]byte, []api.Member) {
	t.Helper()
	c := crc.Make()
	b := make([]byte, 1024)
	for i, n := range sizes {
		r, e := record.Put(&c, fmt.Sprintf("n%03d", i), sample.Bytes(n, uint32(i)), -1)
		if e != api.OK {
			t.Fatal("no record")
		}
		b = append(b, r...)
	}
	l, _, e := scan.Live(&c, b, len(b))
	if e != api.OK {
		t.Fatal("no records")
	}
	return b[1024:], l
}

// laid is a file's bytes by the chapter's words: two slots, records, and a directory's bytes.
func laid(t *testing.T, s0, s1 api.Slot, rest ...[]byte) []byte {
	t.Helper()
	c := crc.Make()
	b := make([]byte, 1024)
	for i, s := range []api.Slot{s0, s1} {
		if s == (api.Slot{}) {
			continue
		}
		sector, e := slot.Put(&c, s)
		if e != api.OK {
			t.Fatal("no slot")
		}
		copy(b[512*i:], sector)
	}
	return append(b, bytes.Join(rest, nil)...)
}

func directory(t *testing.T, l []api.Member) []byte {
	t.Helper()
	c := crc.Make()
	b, e := foot.Write(&c, l)
	if e != api.OK {
		t.Fatal("no directory")
	}
	return b
}

// filed is a file system that has one file, of these bytes.
func filed(t *testing.T, name string, b []byte) *crashfs.FS {
	t.Helper()
	f := crashfs.New(20000)
	id, e := f.Create(name)
	if e != api.OK || f.Write(id, 0, b) != api.OK || f.Sync(id) != api.OK || f.SyncDir() != api.OK {
		t.Fatal("no file")
	}
	return f
}

// full is bytes, and behind them 0 up to whole sectors.
func full(b []byte) []byte {
	return append(bytes.Clone(b), make([]byte, (512-len(b)%512)%512)...)
}

// 27.1

func TestImage(t *testing.T) {
	c := crc.Make()
	for _, sizes := range [][]int{nil, {3}, {0, 1, 2}, {65536, 300, 7}} {
		b, l := records(t, sizes...)
		dir := directory(t, l)
		end := 1024 + len(b)
		s := api.Slot{Seq: 0, End: end, Dir: len(dir), Clean: true}
		behind := s
		behind.Seq = 1
		want := laid(t, s, behind, b, dir)
		kept := bytes.Clone(b)
		got, e := commit.Image(&c, b, l)
		if !bytes.Equal(got, want) || e != api.OK {
			t.Fatalf("Image of %v: %d bytes, %d, not %d", sizes, len(got), e, len(want))
		}
		wantLoad(t, "an image", got, behind, l, api.OK)
		clear(got)
		if again, _ := commit.Image(&c, b, l); !bytes.Equal(again, want) || !bytes.Equal(b, kept) || c != crc.Make() {
			t.Error("not new memory, or changed")
		}
	}
	if b, _ := commit.Image(&c, nil, nil); len(b) != 1044 {
		t.Errorf("the example: %d bytes", len(b))
	}
}

func TestImageRefused(t *testing.T) {
	c := crc.Make()
	_, l := records(t, 1, 2)
	for _, wrong := range [][]api.Member{{l[1], l[0]}, {l[0], l[0]}, {{}}} {
		for _, b := range [][]byte{nil, make([]byte, most+1)} {
			if got, e := commit.Image(&c, b, wrong); len(got) != 0 || e != api.ErrArg {
				t.Errorf("of what is no directory: %d bytes, %d", len(got), e)
			}
		}
	}
	for _, x := range []struct {
		n int
		l []api.Member
		e api.Errno
	}{
		{most - 1044, nil, api.OK}, {most - 1043, nil, api.ErrLimit}, {most, nil, api.ErrLimit}, {most + 5000, nil, api.ErrLimit},
		{most - 1044 - 44, l, api.OK}, {most - 1044 - 43, l, api.ErrLimit},
	} {
		got, e := commit.Image(&c, make([]byte, x.n), x.l)
		if e != x.e || (e == api.OK) != (len(got) == most) || e != api.OK && len(got) != 0 {
			t.Errorf("of %d bytes: %d bytes, %d", x.n, len(got), e)
		}
	}
}

func wantLoad(t *testing.T, what string, b []byte, s api.Slot, l []api.Member, e api.Errno) {
	t.Helper()
	c := crc.Make()
	kept := bytes.Clone(b)
	gs, gl, ge := commit.Load(&c, b)
	if gs != s || !slices.Equal(gl, l) || ge != e {
		t.Errorf("%s: Load: %v %v %d, not %v %v %d", what, gs, gl, ge, s, l, e)
	}
	if !bytes.Equal(b, kept) || c != crc.Make() {
		t.Errorf("%s: changed", what)
	}
}

func wantNotLoaded(t *testing.T, what string, b []byte, e api.Errno) {
	t.Helper()
	wantLoad(t, what, b, api.Slot{}, nil, e)
}

func TestLoadClean(t *testing.T) {
	b, l := records(t, 3, 5)
	dir := directory(t, l)
	end := 1024 + len(b)
	s := api.Slot{Seq: 8, End: end, Dir: len(dir), Clean: true}
	right := laid(t, s, api.Slot{}, b, dir)
	wantLoad(t, "one slot", right, s, l, api.OK)
	wantLoad(t, "more behind", append(bytes.Clone(right), "more"...), s, l, api.OK)
	older := api.Slot{Seq: 7, End: 1024}
	wantLoad(t, "an older slot", laid(t, s, older, b, dir), s, l, api.OK)
	newer := api.Slot{Seq: 9, End: 1024}
	wantLoad(t, "a newer slot", laid(t, s, newer, b, dir), newer, nil, api.OK)
	for n := 1024; n < len(right); n++ {
		wantNotLoaded(t, "not all there", right[:n], api.ErrEnd)
	}
	for n := range 1024 {
		if n < 512 {
			wantNotLoaded(t, "no slot", right[:n], api.ErrForm)
		} else {
			wantNotLoaded(t, "a slot alone", right[:n], api.ErrEnd)
		}
	}
	for i := range dir {
		spoilt := bytes.Clone(right)
		spoilt[end+i] ^= 4
		c := crc.Make()
		_, e := foot.Read(&c, spoilt[end:])
		wantNotLoaded(t, "a directory that is spoilt", spoilt, e)
	}
	// What the records have doesn't count: their directory is whole.
	wantLoad(t, "no records", laid(t, s, api.Slot{}, make([]byte, len(b)), dir), s, l, api.OK)
	wantNotLoaded(t, "no slots", make([]byte, 3000), api.ErrForm)
	wantNotLoaded(t, "nothing", nil, api.ErrForm)
}

func TestLoadBeyondTheEnd(t *testing.T) {
	_, l := records(t, 3, 5)
	behind := l[1].From + l[1].Area
	for end := l[0].From; end < behind+3; end++ {
		dir := directory(t, l)
		s := api.Slot{Seq: 1, End: end, Dir: len(dir), Clean: true}
		b := laid(t, api.Slot{}, s, make([]byte, end-1024), dir)
		if end < behind {
			wantNotLoaded(t, "a payload beyond the end", b, api.ErrForm)
		} else {
			wantLoad(t, "a payload up to the end", b, s, l, api.OK)
		}
	}
	far := []api.Member{l[0]}
	far[0].At += 1 << 29
	far[0].From += 1 << 29
	dir := directory(t, far)
	wantNotLoaded(t, "far off", laid(t, api.Slot{Seq: 0, End: 1024, Dir: len(dir), Clean: true}, api.Slot{}, dir), api.ErrForm)
}

func TestLoadDirty(t *testing.T) {
	b, l := records(t, 3, 5)
	end := 1024 + len(b)
	s := api.Slot{Seq: 3, End: end}
	wantLoad(t, "dirty", laid(t, api.Slot{}, s, b), s, l, api.OK)
	wantLoad(t, "dirty, and what is laid behind", laid(t, api.Slot{}, s, b, []byte("LMBR, but not all of it")), s, l, api.OK)
	first := api.Slot{Seq: 3, End: l[1].At}
	wantLoad(t, "dirty, up to the first", laid(t, api.Slot{}, first, b), first, l[:1], api.OK)
	wantNotLoaded(t, "not all there", laid(t, api.Slot{}, s, b[:len(b)-1]), api.ErrEnd)
	half := api.Slot{Seq: 3, End: end - 1}
	wantNotLoaded(t, "half a record", laid(t, api.Slot{}, half, b), api.ErrSize)
	spoilt := bytes.Clone(b)
	spoilt[6]++
	wantNotLoaded(t, "no record", laid(t, api.Slot{}, s, spoilt), api.ErrSum)
	many, _ := records(t, make([]int, 200)...)
	c := crc.Make()
	more, _ := record.Put(&c, "o", nil, 0)
	one := append(bytes.Clone(many), more...)
	full := api.Slot{Seq: 3, End: 1024 + len(many)}
	if _, l, e := commit.Load(&c, laid(t, api.Slot{}, full, many)); len(l) != 200 || e != api.OK {
		t.Errorf("of 200: %d %d", len(l), e)
	}
	wantNotLoaded(t, "of 201", laid(t, api.Slot{}, api.Slot{Seq: 3, End: 1024 + len(one)}, one), api.ErrLimit)
}

// 27.2

func TestMake(t *testing.T) {
	c := crc.Make()
	image, _ := commit.Image(&c, nil, nil)
	for _, name := range []string{"a", strings.Repeat("n", 96), "a/b//", "\x00"} {
		f := crashfs.New(100)
		if e := commit.Make(f, &c, name); e != api.OK {
			t.Fatalf("Make(%q): %d", name, e)
		}
		if !slices.Equal(f.Names(), []string{name}) || !bytes.Equal(sample.Content(f, name), full(image)) || f.Waiting() != 0 {
			t.Errorf("Make(%q): %q", name, f.Names())
		}
		if all, refused := f.Calls(); all != 5 || refused != 0 {
			t.Errorf("Make(%q): %d calls, %d refused", name, all, refused)
		}
		f.Crash(api.Crash{})
		if !bytes.Equal(sample.Content(f, name), full(image)) {
			t.Error("not safe")
		}
	}
}

func TestMakeRefused(t *testing.T) {
	c := crc.Make()
	f := crashfs.New(100)
	for _, e := range []api.Errno{commit.Make(nil, &c, ""), commit.Make(f, nil, ""), commit.Make(nil, nil, "a")} {
		if e != api.ErrArg {
			t.Errorf("of nil: %d", e)
		}
	}
	f.Create("")
	for _, name := range []string{"", strings.Repeat("n", 97), strings.Repeat("n", 100)} {
		f.Create(name)
		before, _ := f.Calls()
		if e := commit.Make(f, &c, name); e != api.ErrName {
			t.Errorf("Make(%q): %d", name, e)
		}
		if all, _ := f.Calls(); all != before {
			t.Errorf("Make(%q): a call, though it is no name", name)
		}
	}
	id, _ := f.Create("a")
	before, _ := f.Calls()
	if e := commit.Make(f, &c, "a"); e != api.ErrExists {
		t.Errorf("of what is there: %d", e)
	}
	if all, _ := f.Calls(); all != before || f.Size(id) != 0 {
		t.Error("a call, though it is there")
	}
	small := crashfs.New(2)
	if e := commit.Make(small, &c, "a"); e != api.ErrNoSpace || len(small.Names()) != 0 {
		t.Errorf("without room: %d %q", e, small.Names())
	}
	if all, refused := small.Calls(); all != 4 || refused != 1 {
		t.Errorf("without room: %d calls, %d refused", all, refused)
	}
	crowd := crashfs.New(100)
	for i := range 16 {
		crowd.Create(fmt.Sprint(i))
	}
	if e := commit.Make(crowd, &c, "a"); e != api.ErrLimit {
		t.Errorf("without a name: %d", e)
	}
}

// wantLaid holds what an image is laid by: of each call that is refused what is told, how many calls there are, and which names.
func wantLaid(t *testing.T, fresh func() *crashfs.FS, lay func(f *crashfs.FS) api.Errno, ahead []string, old bool) {
	t.Helper()
	first, with := 1, append(slices.Clone(ahead), "a.tmp")
	if old {
		first = 2
	}
	for n := 1; n <= first+5; n++ {
		f := fresh()
		before, _ := f.Calls()
		f.Refuse([]int{before + n})
		e := lay(f)
		all, refused := f.Calls()
		names, calls := []string{"a"}, first+4
		switch step := n - first; {
		case step < 0:
			names, calls = with, 1
		case step == 0:
			names, calls = ahead, n
		case step < 4:
			names, calls = ahead, n+2
		}
		want, wantRefused := api.ErrIO, 1
		if n == first+5 {
			want, wantRefused = api.OK, 0
		}
		if e != want || all-before != calls || refused != wantRefused || !slices.Equal(f.Names(), names) {
			t.Errorf("call %d refused: %d, %d calls, %d refused, %q; not %d, %d calls, %q", n, e, all-before, refused, f.Names(), want, calls, names)
		}
	}
	for n := 1; n < 4; n++ {
		// The Remove behind a call that is refused is refused, too: then there is no SyncDir.
		f := fresh()
		before, _ := f.Calls()
		f.Refuse([]int{before + first + n, before + first + n + 1})
		if e := lay(f); e != api.ErrIO || !slices.Equal(f.Names(), with) {
			t.Errorf("calls %d and the next refused: %d %q", n, e, f.Names())
		}
		if all, refused := f.Calls(); all-before != first+n+1 || refused != 2 {
			t.Errorf("calls %d and the next refused: %d calls, %d refused", n, all-before, refused)
		}
		// The SyncDir behind it is refused.
		f = fresh()
		f.Refuse([]int{before + first + n, before + first + n + 2})
		if e := lay(f); e != api.ErrIO || !slices.Equal(f.Names(), ahead) {
			t.Errorf("call %d and the last refused: %d %q", n, e, f.Names())
		}
	}
}

func TestMakeIsRefusedCallByCall(t *testing.T) {
	c := crc.Make()
	lay := func(f *crashfs.FS) api.Errno { return commit.Make(f, &c, "a") }
	wantLaid(t, func() *crashfs.FS { return crashfs.New(100) }, lay, nil, false)
	wantLaid(t, func() *crashfs.FS {
		f := crashfs.New(100)
		f.Create("a.tmp")
		return f
	}, lay, nil, true)
}

func TestOpen(t *testing.T) {
	c := crc.Make()
	b, l := records(t, 3, 5)
	image, _ := commit.Image(&c, b, l)
	f := filed(t, "a", image)
	before, _ := f.Calls()
	s, got, e := commit.Open(f, &c, "a")
	if e != api.OK || !slices.Equal(got, l) || s.End() != 1024+len(b) || s.Poisoned() || s.Slot() != (api.Slot{Seq: 1, End: s.End(), Dir: 64, Clean: true}) {
		t.Fatalf("Open: %v %d", got, e)
	}
	if all, _ := f.Calls(); all != before+2 || !bytes.Equal(sample.Content(f, "a"), full(image)) {
		t.Error("other calls, or changed bytes")
	}
	if data, e := s.Read(l[0].From, 3); !bytes.Equal(data, sample.Bytes(3, 0)) || e != api.OK {
		t.Errorf("Read: %v %d", data, e)
	}
	for _, at := range []int{-1, most - 1, math.MaxInt} {
		id, _ := f.Open("a")
		_, want := f.Read(id, at, 2)
		if data, e := s.Read(at, 2); len(data) != 0 || e != want || e != api.ErrArg {
			t.Errorf("Read at %d: %v %d", at, data, e)
		}
	}
}

func TestOpenRefused(t *testing.T) {
	c := crc.Make()
	image, _ := commit.Image(&c, nil, nil)
	want := func(what string, f *crashfs.FS, t0 *crc.Table, name string, want api.Errno) {
		t.Helper()
		if s, l, e := commit.Open(f, t0, name); s != nil || len(l) != 0 || e != want {
			t.Errorf("%s: %v %v %d", what, s, l, e)
		}
	}
	f := filed(t, "a", image)
	want("nil", nil, &c, "a", api.ErrArg)
	want("nil", f, nil, "a", api.ErrArg)
	want("nil", f, nil, "b", api.ErrArg)
	before, _ := f.Calls()
	want("not there", f, &c, "b", api.ErrNotFound)
	want("no name", f, &c, "", api.ErrNotFound)
	if all, _ := f.Calls(); all != before {
		t.Error("calls of what isn't there")
	}
	for n := 1; n < 3; n++ {
		f := filed(t, "a", image)
		all, _ := f.Calls()
		f.Refuse([]int{all + n})
		want("a call is refused", f, &c, "a", api.ErrIO)
		if now, _ := f.Calls(); now != all+n {
			t.Errorf("%d calls", now-all)
		}
	}
	f = filed(t, "a", make([]byte, 2000))
	want("no slots", f, &c, "a", api.ErrForm)
	f = filed(t, "a", image[:1024])
	want("no directory", f, &c, "a", api.ErrEnd)
	f = filed(t, "a", nil)
	want("nothing", f, &c, "a", api.ErrForm)
}

// Open makes what it read safe.
func TestOpenSyncs(t *testing.T) {
	c := crc.Make()
	image, _ := commit.Image(&c, nil, nil)
	f := crashfs.New(100)
	id, _ := f.Create("a")
	f.Write(id, 0, image)
	if s, _, e := commit.Open(f, &c, "a"); s == nil || e != api.OK || f.Waiting() != 0 {
		t.Fatalf("%d", e)
	}
	f.Crash(api.Crash{})
	if !bytes.Equal(sample.Content(f, "a"), full(image)) {
		t.Error("not safe")
	}
}

// 27.3

// opened is a store of an image of records of these sizes.
func opened(t *testing.T, sizes ...int) (*crashfs.FS, *commit.Store) {
	t.Helper()
	c := crc.Make()
	b, l := records(t, sizes...)
	image, e := commit.Image(&c, b, l)
	if e != api.OK {
		t.Fatalf("no image: %d", e)
	}
	f := filed(t, "a", image)
	return f, store(t, f)
}

func store(t *testing.T, f *crashfs.FS) *commit.Store {
	t.Helper()
	c := crc.Make()
	s, _, e := commit.Open(f, &c, "a")
	if e != api.OK {
		t.Fatalf("Open: %d", e)
	}
	return s
}

// numbered is a store whose slot has a Seq.
func numbered(t *testing.T, seq int, clean bool) (*crashfs.FS, *commit.Store) {
	t.Helper()
	s := api.Slot{Seq: seq, End: 1024, Clean: clean}
	if clean {
		s.Dir = 20
	}
	slots := [2]api.Slot{}
	slots[seq%2] = s
	f := filed(t, "a", laid(t, slots[0], slots[1], directory(t, nil)))
	return f, store(t, f)
}

func wantState(t *testing.T, what string, s *commit.Store, want api.Slot, end int, poisoned bool) {
	t.Helper()
	if s.Slot() != want || s.End() != end || s.Poisoned() != poisoned {
		t.Errorf("%s: %v %d %t, not %v %d %t", what, s.Slot(), s.End(), s.Poisoned(), want, end, poisoned)
	}
}

func TestLay(t *testing.T) {
	f, s := opened(t, 3)
	end := s.End()
	before, _ := f.Calls()
	bytesAhead := sample.Content(f, "a")
	dirty := api.Slot{Seq: 2, End: end}
	if e := s.Lay(0, []byte("first"), 20); e != api.OK {
		t.Fatal(e)
	}
	wantState(t, "the first", s, dirty, end, false)
	if all, _ := f.Calls(); all != before+3 || f.Waiting() == 0 {
		t.Error("marked and written by other calls")
	}
	if e := s.Lay(5, []byte("second"), 0); e != api.OK {
		t.Fatal(e)
	}
	if e := s.Lay(0, nil, 0); e != api.OK {
		t.Fatal(e)
	}
	wantState(t, "the second", s, dirty, end, false)
	if all, _ := f.Calls(); all != before+5 {
		t.Error("marked again")
	}
	c := crc.Make()
	sector, _ := slot.Put(&c, dirty)
	want := slices.Concat(sector, bytesAhead[512:end], []byte("firstsecond"), bytesAhead[end+11:])
	if !bytes.Equal(sample.Content(f, "a"), want) {
		t.Error("other bytes")
	}
	f.Crash(api.Crash{})
	copy(want[1024:], bytesAhead[1024:])
	if !bytes.Equal(sample.Content(f, "a"), want) {
		t.Error("the mark isn't safe, or something else is")
	}
}

func TestLayFarOff(t *testing.T) {
	f, s := opened(t)
	if e := s.Lay(3000, []byte("x"), 0); e != api.OK {
		t.Fatal(e)
	}
	if b := sample.Content(f, "a"); len(b) != 4096+512 && len(b) != 4096 || b[4024] != 'x' {
		t.Errorf("%d bytes", len(b))
	}
	wantState(t, "far off", s, api.Slot{Seq: 2, End: 1024}, 1024, false)
}

func TestLayRefused(t *testing.T) {
	f, s := opened(t, 3)
	end := s.End()
	slotAhead := s.Slot()
	before, _ := f.Calls()
	left := most - end
	for _, x := range []struct {
		off, n, dir int
		e           api.Errno
	}{
		{-1, 1, 20, api.ErrArg}, {math.MinInt, 1, 20, api.ErrArg}, {-1, 1, -1, api.ErrArg}, {-1, most, 20, api.ErrArg},
		{0, 1, -1, api.ErrLimit}, {0, 1, math.MinInt, api.ErrLimit}, {0, 1, math.MaxInt, api.ErrLimit}, {math.MaxInt, 1, 20, api.ErrLimit}, {math.MaxInt, 0, 0, api.ErrLimit},
		{left, 1, 0, api.ErrLimit}, {left - 1, 1, 1, api.ErrLimit}, {0, left, 1, api.ErrLimit}, {0, left - 19, 20, api.ErrLimit}, {0, 0, left + 1, api.ErrLimit}, {left + 1, 0, 0, api.ErrLimit},
	} {
		if e := s.Lay(x.off, make([]byte, x.n), x.dir); e != x.e {
			t.Errorf("Lay(%d, %d bytes, %d): %d, not %d", x.off, x.n, x.dir, e, x.e)
		}
	}
	wantState(t, "refused", s, slotAhead, end, false)
	if all, _ := f.Calls(); all != before {
		t.Error("calls, though it is refused")
	}
	for _, x := range [][3]int{{left, 0, 0}, {0, left, 0}, {0, left - 20, 20}, {left - 1, 1, 0}, {0, 0, left}} {
		_, s := opened(t, 3)
		if e := s.Lay(x[0], make([]byte, x[1]), x[2]); e != api.OK {
			t.Errorf("Lay(%d, %d bytes, %d): %d", x[0], x[1], x[2], e)
		}
	}
}

func TestNumbersAreLeft(t *testing.T) {
	for _, x := range []struct {
		back  int
		clean bool
		ok    bool
	}{{3, true, true}, {2, true, true}, {1, true, false}, {0, true, false}, {2, false, true}, {1, false, true}, {0, false, false}} {
		_, s := numbered(t, mostSeq-x.back, x.clean)
		was := s.Slot()
		e := s.Lay(0, []byte("x"), 20)
		if (e == api.OK) != x.ok || !x.ok && (e != api.ErrLimit || s.Slot() != was) {
			t.Errorf("%v: Lay: %d", was, e)
		}
		if e := s.Lay(-1, nil, 0); e != api.ErrArg {
			t.Errorf("%v: Lay below 0: %d", was, e)
		}
		want := api.OK
		if !x.ok && !x.clean {
			want = api.ErrLimit
		}
		if e := s.Commit(nil); e != want || s.Poisoned() {
			t.Errorf("%v: Commit: %d, not %d", was, e, want)
		}
	}
}

func TestLayIsRefusedCallByCall(t *testing.T) {
	for n := 1; n <= 3; n++ {
		f, s := opened(t, 3)
		was, end := s.Slot(), s.End()
		before, _ := f.Calls()
		f.Refuse([]int{before + n})
		if e := s.Lay(0, []byte("x"), 20); e != api.ErrIO {
			t.Errorf("call %d refused: %d", n, e)
		}
		if all, _ := f.Calls(); all != before+n {
			t.Errorf("call %d refused: %d calls", n, all-before)
		}
		want := was
		if n == 3 {
			want = api.Slot{Seq: 2, End: end}
		}
		wantState(t, "a call is refused", s, want, end, false)
		if e := s.Lay(0, []byte("x"), 20); e != api.OK {
			t.Errorf("again: %d", e)
		}
		wantState(t, "again", s, api.Slot{Seq: 2, End: end}, end, false)
	}
	f := crashfs.New(4)
	c := crc.Make()
	commit.Make(f, &c, "a")
	s := store(t, f)
	if e := s.Lay(0, make([]byte, 1100), 20); e != api.ErrNoSpace {
		t.Errorf("without room: %d", e)
	}
	wantState(t, "without room", s, api.Slot{Seq: 2, End: 1024}, 1024, false)
}

func TestGrow(t *testing.T) {
	_, s := opened(t, 3)
	end := s.End()
	was := s.Slot()
	if s.Grow(0) || s.Grow(1) {
		t.Error("a Clean one grows")
	}
	wantState(t, "Clean", s, was, end, false)
	s.Lay(0, []byte("x"), 20)
	left := most - end
	for _, n := range []int{-1, math.MinInt, left + 1, math.MaxInt} {
		if s.Grow(n) {
			t.Errorf("Grow(%d)", n)
		}
	}
	dirty := api.Slot{Seq: 2, End: end}
	wantState(t, "refused", s, dirty, end, false)
	if !s.Grow(0) || !s.Grow(7) || !s.Grow(1) {
		t.Error("it doesn't grow")
	}
	wantState(t, "grown", s, dirty, end+8, false)
	if !s.Grow(left-8) || s.Grow(1) {
		t.Error("up to 2^21")
	}
	wantState(t, "grown to the end", s, dirty, most, false)
}

// 27.4

// put lays one more record, and grows.
func put(t *testing.T, s *commit.Store, b []byte) {
	t.Helper()
	if e := s.Lay(0, b, 0); e != api.OK || !s.Grow(len(b)) {
		t.Fatalf("Lay: %d", e)
	}
}

func TestCommit(t *testing.T) {
	f, s := opened(t, 3)
	b, l := records(t, 3, 70)
	was := s.Slot()
	before, _ := f.Calls()
	if e := s.Commit(l[:1]); e != api.OK {
		t.Errorf("of a Clean one: %d", e)
	}
	if all, _ := f.Calls(); all != before {
		t.Error("of a Clean one: calls")
	}
	wantState(t, "Clean", s, was, s.End(), false)
	put(t, s, b[l[1].At-1024:])
	before, _ = f.Calls()
	if e := s.Commit(l); e != api.OK {
		t.Fatal(e)
	}
	if all, _ := f.Calls(); all != before+4 || f.Waiting() != 0 {
		t.Errorf("%d calls", all-before)
	}
	clean := api.Slot{Seq: 3, End: 1024 + len(b), Dir: 64, Clean: true}
	wantState(t, "a Commit", s, clean, clean.End, false)
	want := laid(t, api.Slot{Seq: 2, End: was.End}, clean, b, directory(t, l))
	if got := sample.Content(f, "a"); !bytes.Equal(got[:len(want)], want) {
		t.Error("other bytes")
	}
	f.Crash(api.Crash{})
	wantLoad(t, "behind a crash", sample.Content(f, "a"), clean, l, api.OK)
	s = store(t, f)
	put(t, s, []byte("none"))
	wantState(t, "again", s, api.Slot{Seq: 4, End: clean.End}, clean.End+4, false)
}

func TestCommitRefused(t *testing.T) {
	_, s := opened(t, 3)
	_, l := records(t, 1, 2)
	for range 2 {
		if e := s.Commit([]api.Member{l[1], l[0]}); e != api.ErrArg {
			t.Errorf("of what is no directory: %d", e)
		}
		if e := s.Commit([]api.Member{{}}); e != api.ErrArg {
			t.Errorf("of what is no directory: %d", e)
		}
		// Of a Clean one, and then of one that isn't.
		s.Lay(0, nil, 0)
	}
	s.Grow(most - s.End() - 63)
	was := s.Slot()
	if e := s.Commit(l); e != api.ErrLimit {
		t.Errorf("without room: %d", e)
	}
	wantState(t, "without room", s, was, most-63, false)
	if e := s.Commit(l[:1]); e != api.OK {
		t.Errorf("with room: %d", e)
	}
	f, s := opened(t)
	s.Lay(0, nil, 0)
	s.Grow(most - s.End() - 64)
	if e := s.Commit(l); e != api.OK || len(sample.Content(f, "a")) != most {
		t.Errorf("with just as much room: %d", e)
	}
}

func TestCommitIsRefusedCallByCall(t *testing.T) {
	b, l := records(t, 3, 70)
	for n := 1; n <= 4; n++ {
		f, s := opened(t, 3)
		put(t, s, b[l[1].At-1024:])
		was, end := s.Slot(), s.End()
		before, _ := f.Calls()
		f.Refuse([]int{before + n})
		if e := s.Commit(l); e != api.ErrIO {
			t.Errorf("call %d refused: %d", n, e)
		}
		wantState(t, "refused", s, was, end, true)
		if all, _ := f.Calls(); all != before+n {
			t.Errorf("call %d refused: %d calls", n, all-before)
		}
		wantPoisoned(t, f, s, l)
		wantState(t, "poisoned", s, was, end, true)
		if data, e := s.Read(l[0].From, 3); !bytes.Equal(data, sample.Bytes(3, 0)) || e != api.OK {
			t.Error("a poisoned one isn't read")
		}
	}
}

// wantPoisoned holds that a poisoned store is changed by nothing.
func wantPoisoned(t *testing.T, f *crashfs.FS, s *commit.Store, l []api.Member) {
	t.Helper()
	before, _ := f.Calls()
	for _, e := range []api.Errno{s.Lay(0, nil, 0), s.Lay(-1, nil, -1), s.Lay(most, nil, 0), s.Commit(l), s.Commit([]api.Member{{}}), s.Swap(nil, l), s.Swap(nil, []api.Member{{}})} {
		if e != api.ErrPoisoned {
			t.Errorf("poisoned: %d", e)
		}
	}
	if all, _ := f.Calls(); s.Grow(0) || s.Grow(1) || all != before {
		t.Error("poisoned: it grows, or there are calls")
	}
}

func TestSwap(t *testing.T) {
	c := crc.Make()
	b, l := records(t, 9, 70, 5)
	image, _ := commit.Image(&c, b, l)
	for dirty := range 2 {
		f, s := opened(t, 3)
		if dirty == 1 {
			put(t, s, []byte("something"))
		}
		if e := s.Swap(b, l); e != api.OK {
			t.Fatal(e)
		}
		counts := api.Slot{Seq: 1, End: 1024 + len(b), Dir: 86, Clean: true}
		wantState(t, "a Swap", s, counts, counts.End, false)
		if !slices.Equal(f.Names(), []string{"a"}) || !bytes.Equal(sample.Content(f, "a"), full(image)) || f.Waiting() != 0 && dirty == 0 {
			t.Error("another file")
		}
		if data, e := s.Read(l[1].From, 70); !bytes.Equal(data, sample.Bytes(70, 1)) || e != api.OK {
			t.Error("the old file is read")
		}
		put(t, s, []byte("more"))
		wantState(t, "a Swap, and more", s, api.Slot{Seq: 2, End: counts.End}, counts.End+4, false)
		f.Crash(api.Crash{})
		wantLoad(t, "behind a crash", sample.Content(f, "a"), api.Slot{Seq: 2, End: counts.End}, l, api.OK)
	}
}

func TestSwapRefused(t *testing.T) {
	f, s := opened(t, 3)
	_, l := records(t, 1, 2)
	was := s.Slot()
	before, _ := f.Calls()
	if e := s.Swap(nil, []api.Member{{}}); e != api.ErrArg {
		t.Errorf("of what is no directory: %d", e)
	}
	if e := s.Swap(make([]byte, most), []api.Member{{}}); e != api.ErrArg {
		t.Errorf("of what is no directory: %d", e)
	}
	if e := s.Swap(make([]byte, most-1044-43), l); e != api.ErrLimit {
		t.Errorf("without room: %d", e)
	}
	if all, _ := f.Calls(); all != before {
		t.Error("calls, though it is refused")
	}
	wantState(t, "refused", s, was, was.End, false)
	id, _ := f.Create("long" + strings.Repeat("n", 93))
	c := crc.Make()
	image, _ := commit.Image(&c, nil, nil)
	f.Write(id, 0, image)
	s, _, e := commit.Open(f, &c, "long"+strings.Repeat("n", 93))
	if e != api.OK || s.Swap(nil, nil) != api.ErrName || s.Poisoned() {
		t.Errorf("of a name whose other one is none: %d", e)
	}
}

func TestSwapIsRefusedCallByCall(t *testing.T) {
	b, l := records(t, 9, 70, 5)
	var s *commit.Store
	fresh := func() *crashfs.FS {
		f, _ := opened(t, 3)
		return f
	}
	lay := func(f *crashfs.FS) api.Errno {
		s = store(t, f)
		return s.Swap(b, l)
	}
	// The two calls of Open come first.
	swap := func(old bool) {
		for n := 1; n <= 7; n++ {
			f := fresh()
			if old {
				f.Create("a.tmp")
			}
			before, _ := f.Calls()
			f.Refuse([]int{before + 2 + n})
			last := 5
			if old {
				last = 6
			}
			e := lay(f)
			if (e == api.OK) != (n > last) || s.Poisoned() != (n == last) {
				t.Errorf("call %d refused: %d, poisoned %t", n, e, s.Poisoned())
			}
			if n > last {
				continue
			}
			wantState(t, "refused", s, api.Slot{Seq: 1, End: 1053, Dir: 42, Clean: true}, 1053, n == last)
			if data, e := s.Read(1050, 3); !bytes.Equal(data, sample.Bytes(3, 0)) || e != api.OK {
				t.Error("another file is read")
			}
			if n < last {
				if e := s.Swap(b, l); e != api.OK || s.End() != 1024+len(b) {
					t.Errorf("again: %d", e)
				}
			} else {
				wantPoisoned(t, f, s, l)
			}
		}
	}
	swap(false)
	swap(true)
	shifted := func(f *crashfs.FS) *crashfs.FS {
		s = store(t, f)
		return f
	}
	wantLaid(t, func() *crashfs.FS { return shifted(fresh()) }, func(*crashfs.FS) api.Errno { return s.Swap(b, l) }, []string{"a"}, false)
	wantLaid(t, func() *crashfs.FS {
		f := shifted(fresh())
		f.Create("a.tmp")
		return f
	}, func(*crashfs.FS) api.Errno { return s.Swap(b, l) }, []string{"a"}, true)
}

func TestANilStore(t *testing.T) {
	var s *commit.Store
	data, e := s.Read(0, 1)
	if len(data) != 0 || e != api.ErrArg || s.Lay(0, nil, 0) != api.ErrArg || s.Commit(nil) != api.ErrArg || s.Swap(nil, nil) != api.ErrArg || s.Commit([]api.Member{{}}) != api.ErrArg {
		t.Error("a nil store does something")
	}
	if s.Grow(0) || s.Slot() != (api.Slot{}) || s.End() != 0 || s.Poisoned() {
		t.Error("a nil store has something")
	}
}

func TestAStoreKeepsNothingThatIsHandedIn(t *testing.T) {
	c := crc.Make()
	b, l := records(t, 3)
	image, _ := commit.Image(&c, b, l)
	f := filed(t, "a", image)
	s, got, _ := commit.Open(f, &c, "a")
	clear(got)
	c = crc.Table{}
	more := []byte("more")
	put(t, s, more)
	clear(more)
	if e := s.Commit(l); e != api.OK {
		t.Fatal(e)
	}
	wantLoad(t, "committed", sample.Content(f, "a"), api.Slot{Seq: 3, End: 1024 + len(b) + 4, Dir: 42, Clean: true}, l, api.OK)
}

// 27.5

// plan is what is done with an archive, step by step: records are laid, one more each, and made safe, or all is swapped. It tells the members that may be found behind a crash.
type plan struct {
	t    *testing.T
	c    crc.Table
	f    *crashfs.FS
	s    *commit.Store
	dice func(int) int
	l    []api.Member
	may  [][]api.Member
}

func (p *plan) step() {
	switch p.dice(8) {
	case 0:
		rows, l := p.all()
		p.end(p.s.Swap(rows, l), l)
	case 1, 2:
		p.end(p.s.Commit(p.l), p.l)
	default:
		name := string(rune('a' + p.dice(5)))
		b, _ := record.Put(&p.c, name, sample.Bytes(p.dice(900), uint32(p.dice(999))), p.dice(3)-1)
		if p.dice(3) == 0 {
			b, _ = stone.Put(&p.c, name)
		}
		at := p.s.End()
		if p.s.Lay(0, b, 500) != api.OK {
			return
		}
		r, e := record.Take(&p.c, append(make([]byte, at), b...), at)
		if e != api.OK || !p.s.Grow(len(b)) {
			p.t.Fatalf("no record: %d", e)
		}
		p.l = scan.Apply(p.l, r)
	}
}

// end is what may be found behind a commit that was OK, or that began.
func (p *plan) end(e api.Errno, l []api.Member) {
	p.may = append(p.may, l)
	if e == api.OK {
		p.l, p.may = l, [][]api.Member{l}
	}
}

// all is the records of all members anew, and these.
func (p *plan) all() ([]byte, []api.Member) {
	b := make([]byte, 1024)
	for _, m := range p.l {
		area, e := p.s.Read(m.At, m.From+m.Area-m.At)
		if e != api.OK {
			p.t.Fatal("not read")
		}
		b = append(b, area...)
	}
	l, _, e := scan.Live(&p.c, b, len(b))
	if e != api.OK {
		p.t.Fatalf("no records: %d", e)
	}
	return b[1024:], l
}

// crash loses some of what waits, and opens the archive anew.
func (p *plan) crash() {
	keep := make([]bool, p.f.Waiting())
	for i := range keep {
		keep[i] = p.dice(2) == 0
	}
	p.f.Crash(api.Crash{Keep: keep, Names: p.dice(5), Fill: byte(p.dice(256))})
	ahead := sample.Content(p.f, "a")
	s, l, e := commit.Open(p.f, &p.c, "a")
	if e != api.OK {
		p.t.Fatalf("behind a crash: %d", e)
	}
	if !slices.ContainsFunc(p.may, func(x []api.Member) bool { return slices.Equal(x, l) }) {
		p.t.Fatalf("behind a crash: %v, of %v", l, p.may)
	}
	if !bytes.Equal(sample.Content(p.f, "a"), ahead) {
		p.t.Fatal("Open changes bytes")
	}
	for _, m := range l {
		if _, e := record.Data(&p.c, ahead, m); e != api.OK {
			p.t.Fatalf("behind a crash: %q has no data: %d", m.Name, e)
		}
	}
	p.s, p.l, p.may = s, l, [][]api.Member{l}
}

func TestCrashes(t *testing.T) {
	for seed := range uint32(400) {
		p := &plan{t: t, c: crc.Make(), f: crashfs.New(200), dice: sample.Dice(seed), may: [][]api.Member{nil}}
		if e := commit.Make(p.f, &p.c, "a"); e != api.OK {
			t.Fatal(e)
		}
		p.s, _, _ = commit.Open(p.f, &p.c, "a")
		for range 6 {
			all, _ := p.f.Calls()
			if seed%2 == 0 {
				p.f.Refuse([]int{all + 1 + p.dice(30), all + 1 + p.dice(30)})
			}
			for range p.dice(12) {
				p.step()
			}
			p.crash()
		}
	}
}

// Whenever the power goes while an archive is made, there is none, or one without members.
func TestCrashesOfMake(t *testing.T) {
	c := crc.Make()
	for n := 1; n < 7; n++ {
		for names := range 4 {
			for pattern := range 8 {
				f := crashfs.New(100)
				f.Refuse([]int{n, n + 1, n + 2, n + 3, n + 4})
				e := commit.Make(f, &c, "a")
				f.Crash(api.Crash{Keep: []bool{pattern&1 > 0, pattern&2 > 0, pattern&4 > 0}, Names: names, Fill: 9})
				_, l, oe := commit.Open(f, &c, "a")
				if len(l) != 0 || oe != api.OK && oe != api.ErrNotFound || e == api.OK && oe != api.OK {
					t.Fatalf("call %d refused: %d, behind a crash %v %d", n, e, l, oe)
				}
			}
		}
	}
}
