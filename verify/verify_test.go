package verify_test

import (
	"bytes"
	"fmt"
	"slices"
	"testing"

	"bindle/api"
	"bindle/archive"
	"bindle/commit"
	"bindle/crashfs"
	"bindle/crc"
	"bindle/entry"
	"bindle/foot"
	"bindle/local"
	"bindle/model"
	"bindle/record"
	"bindle/sample"
	"bindle/scan"
	"bindle/slot"
	"bindle/stone"
	"bindle/verify"
)

// laid is bytes of a slot, and of what stands from 1024 on.
func laid(t *testing.T, s api.Slot, rest ...[]byte) []byte {
	t.Helper()
	c := crc.Make()
	sector, e := slot.Put(&c, s)
	if e != api.OK {
		t.Fatal("no slot")
	}
	return append(append(sector, make([]byte, 512)...), bytes.Join(rest, nil)...)
}

// records are some of all kinds, of which not all are live.
func records(t *testing.T) []byte {
	t.Helper()
	c := crc.Make()
	var b []byte
	add := func(r []byte, e api.Errno) {
		if e != api.OK {
			t.Fatal("no record")
		}
		b = append(b, r...)
	}
	add(record.Put(&c, "b", []byte("old"), 0))
	add(record.Put(&c, "c", bytes.Repeat([]byte("text "), 40), 2))
	add(stone.Put(&c, "b"))
	add(record.Stream(&c, "a/s", [][]byte{[]byte("one"), []byte("two")}))
	add(record.Put(&c, "b", []byte("new"), 0))
	add(record.Put(&c, "d", nil, 0))
	add(stone.Put(&c, "d"))
	add(stone.Put(&c, "x"))
	return b
}

func files() []api.File {
	return []api.File{sample.File("a/s", "onetwo"), sample.File("b", "new"), sample.File("c", string(bytes.Repeat([]byte("text "), 40)))}
}

func live(t *testing.T, b []byte) []api.Member {
	t.Helper()
	c := crc.Make()
	b = append(make([]byte, 1024), b...)
	l, _, e := scan.Live(&c, b, len(b))
	if e != api.OK {
		t.Fatal("no records")
	}
	return l
}

func directory(t *testing.T, l []api.Member) []byte {
	t.Helper()
	c := crc.Make()
	b, e := foot.Write(&c, l)
	if e != api.OK {
		t.Fatal("no directory")
	}
	return b
}

// checked is bytes that are an archive in every part, and what is told of them.
func checked(t *testing.T, clean bool) ([]byte, verify.Report) {
	t.Helper()
	b := records(t)
	l := live(t, b)
	waste := len(b)
	for _, m := range l {
		waste -= m.Area + local.Len(m.Name)
		if m.Method == api.Streamed {
			waste -= 20
		}
	}
	want := verify.Report{Slot: api.Slot{Seq: 6, End: 1024 + len(b)}, Members: l, Files: files(), Gone: 3, Waste: waste}
	if !clean {
		return laid(t, want.Slot, b), want
	}
	dir := directory(t, l)
	want.Slot.Clean, want.Slot.Dir = true, len(dir)
	return laid(t, want.Slot, b, dir), want
}

func same(a, b verify.Report) bool {
	return a.Slot == b.Slot && a.Gone == b.Gone && a.Waste == b.Waste && slices.Equal(a.Members, b.Members) && model.Same(a.Files, b.Files)
}

// wantReport holds what is told of bytes, as such and as a file.
func wantReport(t *testing.T, what string, b []byte, want verify.Report, e api.Errno) {
	t.Helper()
	c := crc.Make()
	kept := bytes.Clone(b)
	if r, ge := verify.Check(&c, b); !same(r, want) || ge != e {
		t.Errorf("%s: Check: %v %d, not %v %d", what, r, ge, want, e)
	}
	if l, ge := verify.Files(&c, b); !model.Same(l, want.Files) || ge != e {
		t.Errorf("%s: Files: %v %d, not %v %d", what, l, ge, want.Files, e)
	}
	if !bytes.Equal(b, kept) || c != crc.Make() {
		t.Errorf("%s: changed", what)
	}
}

func wantRefused(t *testing.T, what string, b []byte, e api.Errno) {
	t.Helper()
	wantReport(t, what, b, verify.Report{}, e)
}

// 29.1

func TestCheck(t *testing.T) {
	for _, clean := range []bool{true, false} {
		b, want := checked(t, clean)
		wantReport(t, "all kinds", b, want, api.OK)
		wantReport(t, "more behind", append(bytes.Clone(b), "LMBR, and no more"...), want, api.OK)
	}
	c := crc.Make()
	image, _ := commit.Image(&c, nil, nil)
	wantReport(t, "the example", image, verify.Report{Slot: api.Slot{Seq: 1, End: 1024, Dir: 20, Clean: true}}, api.OK)
}

func TestWhatLoadRefuses(t *testing.T) {
	b, _ := checked(t, true)
	wantRefused(t, "nothing", nil, api.ErrForm)
	wantRefused(t, "no slots", make([]byte, 3000), api.ErrForm)
	wantRefused(t, "not all there", b[:len(b)-1], api.ErrEnd)
	spoilt := bytes.Clone(b)
	spoilt[len(b)-1]++
	wantRefused(t, "a foot of another sum", spoilt, api.ErrSum)
	// The directory is refused ahead of a record that is none.
	spoilt[1024]++
	wantRefused(t, "a foot of another sum, and no record", spoilt, api.ErrSum)
	dirty, _ := checked(t, false)
	dirty[1024]++
	wantRefused(t, "no record", dirty, api.ErrForm)
}

func TestWhatTheScanRefuses(t *testing.T) {
	rows := records(t)
	l := live(t, rows)
	dir := directory(t, l)
	s := api.Slot{Seq: 6, End: 1024 + len(rows), Dir: len(dir), Clean: true}
	c := crc.Make()
	for at := range rows {
		spoilt := bytes.Clone(rows)
		spoilt[at] ^= 0x81
		b := laid(t, s, spoilt, dir)
		want := api.OK
		if ls, _, e := scan.Live(&c, b, s.End); e != api.OK {
			want = e
		} else if !entry.Same(ls, l) {
			want = api.ErrCodes
		} else if _, e := verify.First(&c, b, l); e != api.OK {
			want = api.ErrSum
		}
		if _, e := verify.Check(&c, b); e != want {
			t.Fatalf("another byte at %d: %d, not %d", at, e, want)
		}
	}
	half := append(bytes.Clone(rows), "LMB"...)
	s.End += 3
	wantRefused(t, "less than a record behind", laid(t, s, half, dir), api.ErrForm)
}

func TestOtherMembers(t *testing.T) {
	rows := records(t)
	l := live(t, rows)
	other := slices.Clone(l)
	other[1].Sum++
	early := slices.Clone(l)
	early[1].At = 1024
	early[1].From = 1047
	for _, l := range [][]api.Member{nil, l[:2], l[1:], other, early} {
		dir := directory(t, l)
		s := api.Slot{Seq: 6, End: 1024 + len(rows), Dir: len(dir), Clean: true}
		wantRefused(t, "other members", laid(t, s, rows, dir), api.ErrCodes)
		// A payload that is spoilt, too, isn't looked at.
		spoilt := bytes.Clone(rows)
		spoilt[24]++
		wantRefused(t, "other members, and another sum", laid(t, s, spoilt, dir), api.ErrCodes)
	}
}

func TestWhatDataRefuses(t *testing.T) {
	for _, clean := range []bool{true, false} {
		b, want := checked(t, clean)
		c := crc.Make()
		for i, m := range want.Members {
			spoilt := bytes.Clone(b)
			for _, later := range want.Members[i:] {
				spoilt[later.From+later.Area-1] ^= 1
			}
			if m.Method == api.Streamed {
				// A stream's end is where a scan finds it: its first piece's bytes are spoilt in its stead.
				spoilt[m.From+m.Area-1] ^= 1
				spoilt[m.From+2]++
			}
			wantRefused(t, "a payload", spoilt, api.ErrSum)
			if got, e := verify.First(&c, spoilt, want.Members); got != m || e != api.ErrSum {
				t.Errorf("First: %v %d, not %v", got, e, m)
			}
		}
	}
}

// What isn't live is not looked into.
func TestWhatIsNotLiveMayBeSpoilt(t *testing.T) {
	b, want := checked(t, true)
	b[1024+23]++
	wantReport(t, "a payload that isn't live", b, want, api.OK)
}

func TestFirst(t *testing.T) {
	c := crc.Make()
	b, want := checked(t, true)
	l := want.Members
	wrong, far := l[1], l[1]
	wrong.Size++
	far.At += 1 << 20
	far.From += 1 << 20
	none := api.Member{}
	for _, x := range []struct {
		l []api.Member
		m api.Member
		e api.Errno
	}{
		{nil, none, api.OK},
		{l, none, api.OK},
		{[]api.Member{l[2], l[0], l[0]}, none, api.OK},
		{[]api.Member{l[2], wrong, far}, wrong, api.ErrSize},
		{[]api.Member{l[2], far, wrong}, far, api.ErrEnd},
		{[]api.Member{none}, none, api.ErrArg},
		{[]api.Member{l[0], none, wrong}, none, api.ErrArg},
		{slices.Repeat(l, 100), none, api.OK},
	} {
		kept := slices.Clone(x.l)
		if m, e := verify.First(&c, b, x.l); m != x.m || e != x.e || !slices.Equal(x.l, kept) {
			t.Errorf("First: %v %d, not %v %d", m, e, x.m, x.e)
		}
	}
}

func TestAnswersAreNewMemory(t *testing.T) {
	c := crc.Make()
	b, want := checked(t, true)
	r, _ := verify.Check(&c, b)
	l, _ := verify.Files(&c, b)
	clear(b)
	if !same(r, want) || !model.Same(l, want.Files) {
		t.Error("the answer isn't new memory")
	}
	clear(r.Files[0].Data)
	if !model.Same(l, want.Files) {
		t.Error("two answers share memory")
	}
}

// 29.2

func TestDisk(t *testing.T) {
	c := crc.Make()
	for _, clean := range []bool{true, false} {
		b, want := checked(t, clean)
		f := crashfs.New(1000)
		id, _ := f.Create("other")
		id, _ = f.Create("a")
		f.Write(id, 0, b)
		f.Refuse([]int{4, 5, 6})
		before, _ := f.Calls()
		if r, e := verify.Disk(f, &c, "a"); !same(r, want) || e != api.OK {
			t.Errorf("%v %d", r, e)
		}
		for _, x := range []struct {
			f    *crashfs.FS
			t    *crc.Table
			name string
			e    api.Errno
		}{{nil, &c, "a", api.ErrArg}, {f, nil, "a", api.ErrArg}, {nil, nil, "b", api.ErrArg}, {f, nil, "b", api.ErrArg}, {f, &c, "b", api.ErrNotFound}, {f, &c, "", api.ErrNotFound}, {f, &c, "other", api.ErrForm}} {
			if r, e := verify.Disk(x.f, x.t, x.name); !same(r, verify.Report{}) || e != x.e {
				t.Errorf("of %q: %v %d, not %d", x.name, r, e, x.e)
			}
		}
		if all, refused := f.Calls(); all != before || refused != 0 {
			t.Error("calls are counted")
		}
	}
}

// The last bytes of the last sector count, too.
func TestDiskReadsAllSectors(t *testing.T) {
	c := crc.Make()
	for n := 460; n < 520; n++ {
		r, _ := record.Put(&c, "x", sample.Bytes(n, 1), -1)
		b, e := commit.Image(&c, r, live(t, r))
		if e != api.OK {
			t.Fatal("no image")
		}
		f := crashfs.New(1000)
		id, _ := f.Create("a")
		f.Write(id, 0, b)
		if got, e := verify.Disk(f, &c, "a"); e != api.OK || len(got.Files) != 1 || len(got.Files[0].Data) != n {
			t.Fatalf("of %d bytes: %d", len(b), e)
		}
	}
}

// 29.3

func TestWhatIsCheckedIsAnArchive(t *testing.T) {
	c := crc.Make()
	dice := sample.Dice(29)
	for seed := range 60 {
		f := crashfs.New(1000)
		archive.Create(f, "a")
		a, _ := archive.Open(f, "a")
		for range dice(25) {
			name := fmt.Sprintf("n%d", dice(6))
			switch dice(5) {
			case 0:
				a.Delete(name)
			case 1:
				a.Begin(name)
				a.Write(sample.Bytes(dice(99), uint32(seed)))
				a.Write(sample.Bytes(dice(99), uint32(seed)))
				a.Finish()
			case 2:
				a.Sync()
			default:
				a.Put(name, bytes.Repeat([]byte("ab"), dice(99)), dice(4)-1)
			}
		}
		want, _ := a.Files()
		if dice(2) == 0 {
			a.Sync()
		} else {
			// A scan up to the End that was made safe finds what a strict check does.
			f.Crash(api.Crash{Keep: slices.Repeat([]bool{true}, dice(200))})
			a, _ = archive.Open(f, "a")
			want, _ = a.Files()
		}
		r, e := verify.Disk(f, &c, "a")
		if e != api.OK || !model.Same(r.Files, want) || r.Slot.End != a.End() {
			t.Fatalf("seed %d: %d, %d files, not %d", seed, e, len(r.Files), len(want))
		}
		if dice(2) == 0 {
			a.Vacuum(dice(4) - 1)
			r, e = verify.Disk(f, &c, "a")
			if e != api.OK || !model.Same(r.Files, want) || r.Gone != 0 || r.Waste != 0 {
				t.Fatalf("seed %d, behind a Vacuum: %d", seed, e)
			}
		}
		other := crashfs.New(1000)
		id, _ := other.Create("b")
		other.Write(id, 0, sample.Content(f, "a"))
		again, e := archive.Open(other, "b")
		if l, fe := again.Files(); e != api.OK || fe != api.OK || !model.Same(l, want) {
			t.Fatalf("seed %d: laid as a file: %d", seed, e)
		}
	}
}

// Of a nil table nothing is promised but that nothing panics.
func TestNilTable(t *testing.T) {
	b, want := checked(t, true)
	verify.Check(nil, b)
	verify.Files(nil, b)
	verify.First(nil, b, want.Members)
}
