package archive_test

import (
	"bytes"
	"fmt"
	"slices"
	"strings"
	"testing"

	"bindle/api"
	"bindle/archive"
	"bindle/codec"
	"bindle/commit"
	"bindle/crashfs"
	"bindle/crc"
	"bindle/foot"
	"bindle/model"
	"bindle/record"
	"bindle/sample"
	"bindle/scan"
	"bindle/slot"
	"bindle/stone"
)

const (
	most    = 1 << 21
	maxData = 65536
)

// created is a file system with an archive, and that one, open.
func created(t *testing.T) (*crashfs.FS, *archive.Archive) {
	t.Helper()
	f := crashfs.New(20000)
	if e := archive.Create(f, "a"); e != api.OK {
		t.Fatalf("Create: %d", e)
	}
	return f, opened(t, f)
}

func opened(t *testing.T, f *crashfs.FS) *archive.Archive {
	t.Helper()
	a, e := archive.Open(f, "a")
	if e != api.OK || a == nil {
		t.Fatalf("Open: %d", e)
	}
	return a
}

func want(t *testing.T, what string, got, want api.Errno) {
	t.Helper()
	if got != want {
		t.Errorf("%s: %d, not %d", what, got, want)
	}
}

// wantAll holds all that is read of an archive against files in order.
func wantAll(t *testing.T, a *archive.Archive, l ...api.File) {
	t.Helper()
	got, e := a.Files()
	if e != api.OK || !model.Same(got, l) {
		t.Fatalf("Files: %d files, %d, not %d files", len(got), e, len(l))
	}
	var names []string
	for _, f := range l {
		names = append(names, f.Name)
		data, e := a.Get(f.Name)
		m, se := a.Stat(f.Name)
		if !bytes.Equal(data, f.Data) || e != api.OK || se != api.OK || m.Size != len(f.Data) || m.Name != f.Name {
			t.Fatalf("%q: %d bytes, %d, %v %d", f.Name, len(data), e, m, se)
		}
	}
	if !slices.Equal(a.Names(""), names) || !slices.Equal(told(a, ""), names) {
		t.Fatalf("Names: %q, not %q", a.Names(""), names)
	}
}

func told(a *archive.Archive, folder string) []string {
	var names []string
	for m := range a.List(folder) {
		names = append(names, m.Name)
	}
	return names
}

// state is all that a later call could tell of an archive.
func state(t *testing.T, f *crashfs.FS, a *archive.Archive) string {
	t.Helper()
	files, e := a.Files()
	all, refused := f.Calls()
	return fmt.Sprint(files, e, slices.Collect(a.List("")), a.End(), a.Poisoned(), all, refused, f.Waiting(), f.Names())
}

// 28.1

func TestCreate(t *testing.T) {
	f := crashfs.New(100)
	want(t, "nil", archive.Create(nil, "a"), api.ErrArg)
	want(t, "no name", archive.Create(f, ""), api.ErrName)
	want(t, "no name", archive.Create(f, strings.Repeat("n", 97)), api.ErrName)
	want(t, "Create", archive.Create(f, "a"), api.OK)
	want(t, "again", archive.Create(f, "a"), api.ErrExists)
	c := crc.Make()
	image, _ := commit.Image(&c, nil, nil)
	if !bytes.Equal(sample.Content(f, "a")[:len(image)], image) {
		t.Error("another image")
	}
	small := crashfs.New(2)
	want(t, "without room", archive.Create(small, "a"), api.ErrNoSpace)
	if len(small.Names()) != 0 {
		t.Error("there is a file")
	}
	f.Refuse([]int{6})
	want(t, "refused", archive.Create(f, "b"), api.ErrIO)
}

func TestOpenRefused(t *testing.T) {
	f, _ := created(t)
	for _, x := range []struct {
		f    *crashfs.FS
		name string
		e    api.Errno
	}{{nil, "a", api.ErrArg}, {f, "b", api.ErrNotFound}, {f, "", api.ErrNotFound}} {
		if a, e := archive.Open(x.f, x.name); a != nil || e != x.e {
			t.Errorf("Open(%q): %v %d", x.name, a, e)
		}
	}
	all, _ := f.Calls()
	f.Refuse([]int{all + 1, all + 3})
	for range 2 {
		if a, e := archive.Open(f, "a"); a != nil || e != api.ErrIO {
			t.Errorf("refused: %v %d", a, e)
		}
	}
	id, _ := f.Open("a")
	f.Write(id, 0, make([]byte, 1024))
	if a, e := archive.Open(f, "a"); a != nil || e != api.ErrForm {
		t.Errorf("without slots: %v %d", a, e)
	}
}

func TestClose(t *testing.T) {
	f, a := created(t)
	a.Put("x", []byte("data"), 0)
	a.Begin("y")
	want(t, "with a stream", a.Close(), api.ErrBusy)
	want(t, "it is open still", a.Abort(), api.OK)
	want(t, "Close", a.Close(), api.OK)
	wantClosed(t, a)
	f.Crash(api.Crash{})
	wantAll(t, opened(t, f), sample.File("x", "data"))
	a = opened(t, f)
	before, _ := f.Calls()
	want(t, "of what wasn't changed", a.Close(), api.OK)
	if all, _ := f.Calls(); all != before {
		t.Error("calls of what wasn't changed")
	}
}

func TestCloseRefused(t *testing.T) {
	f, a := created(t)
	a.Put("x", nil, 0)
	all, _ := f.Calls()
	f.Refuse([]int{all + 2})
	want(t, "a refused Close", a.Close(), api.ErrIO)
	wantClosed(t, a)
	a = opened(t, f)
	a.Put("y", nil, 0)
	all, _ = f.Calls()
	f.Refuse([]int{all + 1})
	want(t, "a refused Sync", a.Sync(), api.ErrIO)
	want(t, "a poisoned one", a.Close(), api.ErrPoisoned)
	wantClosed(t, a)
}

// wantClosed holds what an archive that isn't open tells.
func wantClosed(t *testing.T, a *archive.Archive) {
	t.Helper()
	wantNothing(t, a, api.ErrClosed)
	wantNothing(t, &archive.Archive{}, api.ErrClosed)
}

// wantNothing holds that all is refused alike.
func wantNothing(t *testing.T, a *archive.Archive, e api.Errno) {
	t.Helper()
	long := make([]byte, maxData+1)
	for i, got := range []api.Errno{a.Put("x", nil, 0), a.Put("", long, 0), a.Delete("x"), a.Delete(""), a.Begin("x"), a.Begin(""), a.Write(nil), a.Write(long), a.Finish(), a.Abort(), a.Sync(), a.Vacuum(0), a.Close()} {
		if got != e {
			t.Errorf("call %d: %d, not %d", i, got, e)
		}
	}
	data, ge := a.Get("x")
	m, se := a.Stat("x")
	files, fe := a.Files()
	if len(data) != 0 || ge != e || m != (api.Member{}) || se != e || len(files) != 0 || fe != e {
		t.Errorf("Get %d, Stat %d, Files %d, not %d", ge, se, fe, e)
	}
	if len(told(a, "")) != 0 || len(a.Names("")) != 0 || a.Poisoned() || a.End() != 0 {
		t.Error("it has something")
	}
}

func TestANilArchive(t *testing.T) {
	wantNothing(t, nil, api.ErrArg)
}

// 28.2

func TestPut(t *testing.T) {
	f, a := created(t)
	want(t, "Put", a.Put("a", []byte("abc"), 0), api.OK)
	m, e := a.Stat("a")
	sum := crc.Make()
	if e != api.OK || m != (api.Member{Name: "a", At: 1024, From: 1047, Area: 3, Size: 3, Sum: sum.Sum([]byte("abc"))}) || a.End() != 1050 {
		t.Errorf("the example: %v %d, End %d", m, e, a.End())
	}
	text := strings.Repeat("text ", 50)
	want(t, "packed", a.Put("t", []byte(text), 3), api.OK)
	method, area, _ := codec.Pack([]byte(text), 3)
	m, _ = a.Stat("t")
	if m != (api.Member{Name: "t", At: 1050, From: 1073, Area: len(area), Size: 250, Sum: sum.Sum(area), Method: method}) || method != api.Packed || a.End() != 1073+len(area) {
		t.Errorf("packed: %v, End %d", m, a.End())
	}
	end := a.End()
	want(t, "anew", a.Put("a", []byte("other"), -1), api.OK)
	if m, _ = a.Stat("a"); m.At != end || a.End() != end+28 {
		t.Errorf("anew: %v", m)
	}
	wantAll(t, a, sample.File("a", "other"), sample.File("t", text))
	want(t, "of no data", a.Put("a/b", nil, 0), api.OK)
	want(t, "of all there may be", a.Put("z", make([]byte, maxData), -1), api.OK)
	all := []api.File{sample.File("a", "other"), sample.File("a/b", ""), sample.File("t", text), sample.File("z", string(make([]byte, maxData)))}
	wantAll(t, a, all...)
	want(t, "Sync", a.Sync(), api.OK)
	f.Crash(api.Crash{})
	wantAll(t, opened(t, f), all...)
}

func TestPutIsNotKept(t *testing.T) {
	_, a := created(t)
	data := []byte("data")
	a.Put("a", data, 0)
	a.Begin("b")
	a.Write(data)
	clear(data)
	a.Write([]byte("more"))
	a.Finish()
	got, _ := a.Get("a")
	clear(got)
	files, _ := a.Files()
	clear(files[0].Data)
	clear(a.Names(""))
	wantAll(t, a, sample.File("a", "data"), sample.File("b", "datamore"))
}

func TestPutRefused(t *testing.T) {
	f, a := created(t)
	a.Put("x", []byte("data"), 0)
	ahead := state(t, f, a)
	long := make([]byte, maxData+1)
	for _, name := range []string{"", "a//b", "..", strings.Repeat("n", 65)} {
		want(t, "no name", a.Put(name, nil, 0), api.ErrName)
		want(t, "no name, too many bytes", a.Put(name, long, 0), api.ErrName)
		want(t, "no name", a.Begin(name), api.ErrName)
		want(t, "no name", a.Delete(name), api.ErrNotFound)
	}
	want(t, "too many bytes", a.Put("y", long, 0), api.ErrSize)
	want(t, "not there", a.Delete("y"), api.ErrNotFound)
	if state(t, f, a) != ahead {
		t.Error("changed, though it is refused")
	}
	a.Begin("s")
	ahead = state(t, f, a)
	want(t, "with a stream, and no name", a.Put("", long, 0), api.ErrBusy)
	want(t, "with a stream", a.Put("y", nil, 0), api.ErrBusy)
	want(t, "with a stream, and no name", a.Begin(""), api.ErrBusy)
	want(t, "with a stream", a.Delete("y"), api.ErrBusy)
	want(t, "with a stream", a.Delete("x"), api.ErrBusy)
	want(t, "with a stream", a.Sync(), api.ErrBusy)
	want(t, "with a stream", a.Vacuum(0), api.ErrBusy)
	want(t, "with a stream", a.Close(), api.ErrBusy)
	if state(t, f, a) != ahead {
		t.Error("changed, though there is a stream")
	}
	want(t, "the stream stays", a.Finish(), api.OK)
}

func TestAFullIndex(t *testing.T) {
	f, a := created(t)
	var all []api.File
	for i := range 200 {
		all = append(all, sample.File(fmt.Sprintf("n%03d", i), ""))
		want(t, "Put", a.Put(all[i].Name, nil, 0), api.OK)
	}
	ahead := state(t, f, a)
	want(t, "one more", a.Put("o", nil, 0), api.ErrLimit)
	want(t, "one more, of too many bytes", a.Put("o", make([]byte, maxData+1), 0), api.ErrSize)
	want(t, "one more stream", a.Begin("o"), api.ErrLimit)
	if state(t, f, a) != ahead {
		t.Error("changed, though it is refused")
	}
	want(t, "anew", a.Put("n007", []byte("x"), 0), api.OK)
	want(t, "anew, as a stream", a.Begin("n008"), api.OK)
	want(t, "anew, as a stream", a.Finish(), api.OK)
	all[7] = sample.File("n007", "x")
	wantAll(t, a, all...)
	want(t, "Delete", a.Delete("n000"), api.OK)
	want(t, "in the room of what is gone", a.Put("o", nil, 0), api.OK)
	wantAll(t, a, append(all[1:], sample.File("o", ""))...)
	want(t, "Sync", a.Sync(), api.OK)
}

func TestDelete(t *testing.T) {
	f, a := created(t)
	a.Put("x", []byte("1"), 0)
	a.Put("y", []byte("22"), 0)
	end := a.End()
	want(t, "Delete", a.Delete("x"), api.OK)
	if a.End() != end+10 {
		t.Errorf("End %d", a.End())
	}
	c := crc.Make()
	tomb, _ := stone.Put(&c, "x")
	if !bytes.Equal(sample.Content(f, "a")[end:end+10], tomb) {
		t.Error("another tombstone")
	}
	want(t, "again", a.Delete("x"), api.ErrNotFound)
	wantAll(t, a, sample.File("y", "22"))
	want(t, "Close", a.Close(), api.OK)
	wantAll(t, opened(t, f), sample.File("y", "22"))
}

// filled is an archive in whose file so many bytes are left behind its end and its directory.
func filled(t *testing.T, left int) (*crashfs.FS, *archive.Archive) {
	t.Helper()
	f, a := created(t)
	for i := range 32 {
		n := maxData
		if i == 31 {
			n = most - 1044 - 46*32 - 31*maxData - left
		}
		want(t, "Put", a.Put(fmt.Sprintf("f%02d", i), make([]byte, n), -1), api.OK)
	}
	want(t, "Sync", a.Sync(), api.OK)
	if a.End()+32*21+20 != most-left {
		t.Fatalf("End %d", a.End())
	}
	return f, a
}

func TestRoomForAPut(t *testing.T) {
	f, a := filled(t, 100)
	ahead := state(t, f, a)
	want(t, "a byte too many", a.Put("x", make([]byte, 59), -1), api.ErrLimit)
	want(t, "a byte too many, anew", a.Put("f00", make([]byte, 76), -1), api.ErrLimit)
	if state(t, f, a) != ahead {
		t.Error("changed, though there is no room")
	}
	want(t, "just as many", a.Put("x", make([]byte, 58), -1), api.OK)
	want(t, "Sync", a.Sync(), api.OK)
	if len(sample.Content(f, "a")) != most || !slices.Contains(opened(t, f).Names(""), "x") {
		t.Error("the file isn't full")
	}
	_, a = filled(t, 100)
	want(t, "just as many, anew", a.Put("f00", make([]byte, 75), -1), api.OK)
	want(t, "Sync", a.Sync(), api.OK)
	want(t, "one more", a.Put("f01", nil, -1), api.ErrLimit)
	want(t, "Delete", a.Delete("f01"), api.OK)
	want(t, "Vacuum", a.Vacuum(3), api.OK)
	want(t, "behind a Vacuum", a.Put("f01", make([]byte, maxData), -1), api.OK)
}

func TestRoomForAStream(t *testing.T) {
	f, a := filled(t, 63)
	want(t, "a byte too few", a.Begin("x"), api.ErrLimit)
	want(t, "anew", a.Begin("f00"), api.OK)
	want(t, "Abort", a.Abort(), api.OK)
	_, a = filled(t, 46)
	want(t, "a byte too few, anew", a.Begin("f00"), api.ErrLimit)
	_, a = filled(t, 47)
	want(t, "just as many, anew", a.Begin("f00"), api.OK)
	f, a = filled(t, 74)
	want(t, "Begin", a.Begin("x"), api.OK)
	want(t, "a byte too many", a.Write(make([]byte, 9)), api.ErrLimit)
	want(t, "just as many", a.Write(make([]byte, 8)), api.OK)
	want(t, "one more", a.Write(make([]byte, 1)), api.ErrLimit)
	want(t, "none more", a.Write(nil), api.OK)
	want(t, "Finish", a.Finish(), api.OK)
	want(t, "Sync", a.Sync(), api.OK)
	if m, _ := a.Stat("x"); m.Size != 8 || len(sample.Content(f, "a")) != most {
		t.Errorf("%v", m)
	}
	_, a = filled(t, 64)
	want(t, "just as many", a.Begin("x"), api.OK)
	want(t, "Finish", a.Finish(), api.OK)
	want(t, "Sync", a.Sync(), api.OK)
}

// An archive whose records go so far that its directory has no room is found by a scan; less of it may be deleted then.
func TestRoomForATombstone(t *testing.T) {
	for left := 45; left < 55; left++ {
		c := crc.Make()
		b := make([]byte, 1024)
		for i := 0; len(b) < most-left; i++ {
			n := min(maxData, most-left-len(b)-25)
			if i == 30 {
				n -= 1000
			}
			r, e := record.Put(&c, fmt.Sprintf("f%02d", i%2), make([]byte, n), -1)
			if e != api.OK {
				t.Fatal("no record")
			}
			b = append(b, r...)
		}
		s, _ := slot.Put(&c, api.Slot{Seq: 4, End: most - left})
		copy(b, s)
		f := crashfs.New(20000)
		id, _ := f.Create("a")
		f.Write(id, 0, b)
		a := opened(t, f)
		if len(b) != most-left || len(a.Names("")) != 2 || a.End() != len(b) {
			t.Fatalf("%d bytes, %q", len(b), a.Names(""))
		}
		// A tombstone has 12 bytes, the directory 41 behind it.
		if left < 53 {
			want(t, "no room", a.Delete("f00"), api.ErrLimit)
			if len(a.Names("")) != 2 || a.End() != len(b) {
				t.Error("changed, though there is no room")
			}
			want(t, "Sync", a.Sync(), map[bool]api.Errno{true: api.ErrLimit}[left < 62])
		} else {
			want(t, "just as much room", a.Delete("f00"), api.OK)
			want(t, "Sync", a.Sync(), api.OK)
		}
	}
}

// 28.3

func TestStream(t *testing.T) {
	f, a := created(t)
	a.Put("x", []byte("ahead"), 0)
	end := a.End()
	want(t, "Begin", a.Begin("s/t"), api.OK)
	want(t, "Write", a.Write([]byte("ab")), api.OK)
	want(t, "Write of nothing", a.Write(nil), api.OK)
	want(t, "Write", a.Write([]byte("c")), api.OK)
	if a.End() != end || len(a.Names("")) != 1 {
		t.Error("it is there ahead of Finish")
	}
	want(t, "Finish", a.Finish(), api.OK)
	c := crc.Make()
	b, _ := record.Stream(&c, "s/t", [][]byte{[]byte("ab"), []byte("c")})
	if a.End() != end+len(b) || !bytes.Equal(sample.Content(f, "a")[end:a.End()], b) {
		t.Error("other bytes")
	}
	r, _ := record.Take(&c, sample.Content(f, "a"), end)
	if m, _ := a.Stat("s/t"); m != r.Member || m.Size != 3 || m.Method != api.Streamed {
		t.Errorf("%v", m)
	}
	wantAll(t, a, sample.File("s/t", "abc"), sample.File("x", "ahead"))
	want(t, "Close", a.Close(), api.OK)
	a = opened(t, f)
	wantAll(t, a, sample.File("s/t", "abc"), sample.File("x", "ahead"))
	want(t, "Begin", a.Begin("e"), api.OK)
	want(t, "Finish", a.Finish(), api.OK)
	wantAll(t, a, sample.File("e", ""), sample.File("s/t", "abc"), sample.File("x", "ahead"))
}

func TestWithoutAStream(t *testing.T) {
	f, a := created(t)
	ahead := state(t, f, a)
	for range 2 {
		want(t, "Write", a.Write([]byte("x")), api.ErrNoStream)
		want(t, "Write", a.Write(nil), api.ErrNoStream)
		want(t, "Write", a.Write(make([]byte, maxData+1)), api.ErrNoStream)
		want(t, "Finish", a.Finish(), api.ErrNoStream)
		want(t, "Abort", a.Abort(), api.ErrNoStream)
	}
	if state(t, f, a) != ahead {
		t.Error("changed, though it is refused")
	}
	a.Begin("x")
	a.Write([]byte("lost"))
	want(t, "Abort", a.Abort(), api.OK)
	want(t, "Finish", a.Finish(), api.ErrNoStream)
	wantAll(t, a)
	want(t, "Put", a.Put("y", []byte("data"), 0), api.OK)
	if a.End() != 1051 {
		t.Errorf("End %d: what was given up is there", a.End())
	}
	a.Begin("x")
	want(t, "Finish", a.Finish(), api.OK)
	want(t, "Abort", a.Abort(), api.ErrNoStream)
	wantAll(t, a, sample.File("x", ""), sample.File("y", "data"))
}

func TestAStreamsSize(t *testing.T) {
	f, a := created(t)
	a.Begin("x")
	calls, _ := f.Calls()
	want(t, "too many at once", a.Write(make([]byte, maxData+1)), api.ErrSize)
	want(t, "nothing", a.Write([]byte{}), api.OK)
	if all, _ := f.Calls(); all != calls {
		t.Error("a call, of nothing")
	}
	want(t, "many", a.Write(make([]byte, 65000)), api.OK)
	want(t, "too many", a.Write(make([]byte, 537)), api.ErrSize)
	want(t, "just as many", a.Write(make([]byte, 536)), api.OK)
	want(t, "one more", a.Write([]byte{1}), api.ErrSize)
	want(t, "nothing", a.Write(nil), api.OK)
	want(t, "Finish", a.Finish(), api.OK)
	wantAll(t, a, sample.File("x", string(make([]byte, maxData))))
	a.Begin("y")
	want(t, "all at once", a.Write(make([]byte, maxData)), api.OK)
	want(t, "Finish", a.Finish(), api.OK)
	if m, _ := a.Stat("y"); m.Size != maxData || m.Area != maxData+6 {
		t.Errorf("of two pieces: %v", m)
	}
}

func TestAStreamIsRefusedCallByCall(t *testing.T) {
	f, a := created(t)
	a.Put("x", []byte("ahead"), 0)
	refuse := func() {
		all, _ := f.Calls()
		f.Refuse([]int{all + 1})
	}
	refuse()
	want(t, "Begin", a.Begin("s"), api.ErrIO)
	want(t, "no stream", a.Write([]byte("x")), api.ErrNoStream)
	want(t, "Begin", a.Begin("s"), api.OK)
	want(t, "Write", a.Write([]byte("one")), api.OK)
	refuse()
	want(t, "Write", a.Write([]byte("lost")), api.ErrIO)
	want(t, "Write", a.Write([]byte("two")), api.OK)
	end := a.End()
	for range 2 {
		refuse()
		want(t, "Finish", a.Finish(), api.ErrIO)
		if a.End() != end || len(a.Names("")) != 1 {
			t.Error("it is there, though Finish was refused")
		}
	}
	want(t, "Write", a.Write([]byte("three")), api.OK)
	want(t, "Finish", a.Finish(), api.OK)
	wantAll(t, a, sample.File("s", "onetwothree"), sample.File("x", "ahead"))
	refuse()
	want(t, "Put", a.Put("y", nil, 0), api.ErrIO)
	refuse()
	want(t, "Delete", a.Delete("x"), api.ErrIO)
	wantAll(t, a, sample.File("s", "onetwothree"), sample.File("x", "ahead"))
	c := crc.Make()
	if l, _, e := scan.Live(&c, sample.Content(f, "a"), a.End()); e != api.OK || !slices.Equal(l, slices.Collect(a.List(""))) {
		t.Errorf("a scan: %v %d", l, e)
	}
}

// 28.4

func TestGet(t *testing.T) {
	f, a := created(t)
	a.Put("x", []byte("data"), 0)
	a.Put("y", []byte(strings.Repeat("text", 99)), 1)
	for _, name := range []string{"", "z", "a//b", "X", "xx"} {
		data, e := a.Get(name)
		m, se := a.Stat(name)
		if len(data) != 0 || e != api.ErrNotFound || m != (api.Member{}) || se != api.ErrNotFound {
			t.Errorf("%q: %d %d", name, e, se)
		}
	}
	m, _ := a.Stat("x")
	id, _ := f.Open("a")
	f.Write(id, m.From+1, []byte{'A'})
	if data, e := a.Get("x"); len(data) != 0 || e != api.ErrSum {
		t.Errorf("spoilt: %q %d", data, e)
	}
	if files, e := a.Files(); len(files) != 0 || e != api.ErrSum {
		t.Errorf("spoilt: Files: %v %d", files, e)
	}
	want(t, "spoilt: Vacuum", a.Vacuum(0), api.ErrSum)
	if data, e := a.Get("y"); len(data) != 396 || e != api.OK {
		t.Errorf("not spoilt: %q %d", data, e)
	}
	want(t, "spoilt: Sync", a.Sync(), api.OK)
	want(t, "spoilt: Delete", a.Delete("x"), api.OK)
	want(t, "Vacuum", a.Vacuum(0), api.OK)
	wantAll(t, a, sample.File("y", strings.Repeat("text", 99)))
}

// What has its sum, but is no payload, is refused as the codec does.
func TestGetOfNoPayload(t *testing.T) {
	c := crc.Make()
	b := []byte("these bytes are no block")
	for method := range 3 {
		for size := len(b) - 1; size < len(b)+3; size++ {
			m := api.Member{Name: "x", At: 1024, From: 1047, Area: len(b), Size: size, Sum: c.Sum(b), Method: method}
			image, e := commit.Image(&c, append(make([]byte, 23), b...), []api.Member{m})
			if e != api.OK {
				t.Fatal("no image")
			}
			f := crashfs.New(100)
			id, _ := f.Create("a")
			f.Write(id, 0, image)
			a := opened(t, f)
			wantData, wantE := codec.Unpack(method, b, size)
			if data, e := a.Get("x"); !bytes.Equal(data, wantData) || e != wantE {
				t.Errorf("method %d, size %d: %q %d, not %d", method, size, data, e, wantE)
			}
			want(t, "Vacuum", a.Vacuum(0), wantE)
		}
	}
}

func TestList(t *testing.T) {
	_, a := created(t)
	for _, name := range []string{"b", "a/c", "a", "a/b/d", "ab"} {
		a.Put(name, []byte(name), 0)
	}
	for folder, names := range map[string][]string{"": {"a", "a/b/d", "a/c", "ab", "b"}, "a": {"a/b/d", "a/c"}, "a/b": {"a/b/d"}, "b": nil, "x": nil, "a/": nil, "..": nil} {
		if !slices.Equal(a.Names(folder), names) || !slices.Equal(told(a, folder), names) {
			t.Errorf("in %q: %q", folder, a.Names(folder))
		}
	}
	list := a.List("a")
	a.Delete("a/c")
	a.Put("a/a", nil, 0)
	var names []string
	for m := range list {
		names = append(names, m.Name)
		a.Delete(m.Name)
		break
	}
	if !slices.Equal(names, []string{"a/b/d"}) || !slices.Equal(a.Names("a"), []string{"a/a"}) {
		t.Errorf("%q, then %q", names, a.Names("a"))
	}
}

// 28.5

func TestSync(t *testing.T) {
	f, a := created(t)
	calls, _ := f.Calls()
	want(t, "of nothing", a.Sync(), api.OK)
	if all, _ := f.Calls(); all != calls {
		t.Error("calls of nothing")
	}
	a.Put("x", []byte("1"), 0)
	want(t, "Sync", a.Sync(), api.OK)
	a.Put("y", []byte("2"), 0)
	a.Delete("x")
	f.Crash(api.Crash{Keep: slices.Repeat([]bool{true}, 100), Names: 9})
	wantAll(t, opened(t, f), sample.File("x", "1"))
	b := sample.Content(f, "a")
	c := crc.Make()
	dir, _ := foot.Write(&c, []api.Member{{Name: "x", At: 1024, From: 1047, Area: 1, Size: 1, Sum: c.Sum([]byte("1"))}})
	if bytes.Contains(b, dir) {
		t.Error("what is laid doesn't stand where the directory was")
	}
}

func TestPoisoned(t *testing.T) {
	f, a := created(t)
	a.Put("x", []byte("1"), 0)
	all, _ := f.Calls()
	f.Refuse([]int{all + 3})
	want(t, "Sync", a.Sync(), api.ErrIO)
	if !a.Poisoned() {
		t.Error("not poisoned")
	}
	ahead := state(t, f, a)
	long := make([]byte, maxData+1)
	for i, e := range []api.Errno{a.Put("y", nil, 0), a.Put("", long, 0), a.Begin("y"), a.Begin(""), a.Delete("x"), a.Delete("y"), a.Sync(), a.Vacuum(0)} {
		want(t, fmt.Sprintf("call %d of a poisoned one", i), e, api.ErrPoisoned)
	}
	want(t, "Write", a.Write(nil), api.ErrNoStream)
	if state(t, f, a) != ahead {
		t.Error("a poisoned one is changed")
	}
	wantAll(t, a, sample.File("x", "1"))
	want(t, "Close", a.Close(), api.ErrPoisoned)
	if a.Poisoned() {
		t.Error("poisoned, and not open")
	}
}

func TestVacuum(t *testing.T) {
	f, a := created(t)
	text := strings.Repeat("text ", 300)
	all := []api.File{sample.File("a", text), sample.File("b/c", ""), sample.File("d", "old")}
	for _, l := range all {
		a.Put(l.Name, []byte("first"), 0)
		a.Put(l.Name, l.Data, -1)
	}
	a.Put("gone", nil, 0)
	a.Delete("gone")
	for level := -1; level < 4; level++ {
		want(t, "Vacuum", a.Vacuum(level), api.OK)
		wantAll(t, a, all...)
		c := crc.Make()
		var records []byte
		for _, l := range all {
			b, _ := record.Put(&c, l.Name, l.Data, level)
			records = append(records, b...)
		}
		b := sample.Content(f, "a")
		if a.End() != 1024+len(records) || !bytes.Equal(b[1024:a.End()], records) {
			t.Errorf("level %d: other records, End %d", level, a.End())
		}
		if l, _, e := scan.Live(&c, b, a.End()); e != api.OK || !slices.Equal(l, slices.Collect(a.List(""))) {
			t.Errorf("level %d: %v", level, l)
		}
		wantAll(t, opened(t, f), all...)
	}
	want(t, "Put", a.Put("d", []byte("new"), 0), api.OK)
	want(t, "Close", a.Close(), api.OK)
	a = opened(t, f)
	wantAll(t, a, all[0], all[1], sample.File("d", "new"))
	for _, name := range a.Names("") {
		a.Delete(name)
	}
	want(t, "Vacuum", a.Vacuum(0), api.OK)
	if a.End() != 1024 {
		t.Errorf("of nothing: End %d", a.End())
	}
}

func TestVacuumRefused(t *testing.T) {
	for n := 1; n <= 6; n++ {
		f, a := created(t)
		a.Put("x", []byte("1"), 0)
		a.Sync()
		a.Put("x", []byte("22"), 0)
		end, list := a.End(), slices.Collect(a.List(""))
		all, _ := f.Calls()
		f.Refuse([]int{all + n})
		e := a.Vacuum(0)
		if n == 6 {
			want(t, "Vacuum", e, api.OK)
			continue
		}
		want(t, "Vacuum", e, api.ErrIO)
		if a.Poisoned() != (n == 5) || a.End() != end || !slices.Equal(slices.Collect(a.List("")), list) {
			t.Errorf("call %d refused: poisoned %t, End %d", n, a.Poisoned(), a.End())
		}
		wantAll(t, a, sample.File("x", "22"))
	}
	f := crashfs.New(10)
	archive.Create(f, "a")
	a := opened(t, f)
	want(t, "Put", a.Put("x", make([]byte, 1500), -1), api.OK)
	want(t, "without room", a.Vacuum(-1), api.ErrNoSpace)
	wantAll(t, a, sample.File("x", string(make([]byte, 1500))))
	want(t, "packed", a.Vacuum(1), api.OK)
}

// 28.6

// What was put, or streamed, is got, till it is put anew, or deleted, whatever else is done. (Package play's tests refuse calls, and crash, too.)
func TestAgainstAMap(t *testing.T) {
	for seed := range uint32(40) {
		dice := sample.Dice(seed)
		f, a := created(t)
		all := map[string]string{}
		for i := range 60 {
			name := []string{"a", "a/b", "a/c", "b", "c"}[dice(5)]
			data := bytes.Repeat(sample.Bytes(dice(50), seed+uint32(i)), dice(30))
			_, there := all[name]
			switch dice(8) {
			case 0:
				e := api.OK
				if !there {
					e = api.ErrNotFound
				}
				want(t, "Delete", a.Delete(name), e)
				delete(all, name)
			case 1, 2:
				want(t, "Begin", a.Begin(name), api.OK)
				half := dice(len(data) + 1)
				want(t, "Write", a.Write(data[:half]), api.OK)
				want(t, "Write", a.Write(data[half:]), api.OK)
				if dice(3) == 0 {
					want(t, "Abort", a.Abort(), api.OK)
					break
				}
				want(t, "Finish", a.Finish(), api.OK)
				all[name] = string(data)
			case 3:
				want(t, "Vacuum", a.Vacuum(dice(5)-1), api.OK)
			case 4:
				want(t, "Close", a.Close(), api.OK)
				a = opened(t, f)
			default:
				want(t, "Put", a.Put(name, data, dice(5)-1), api.OK)
				all[name] = string(data)
			}
			wantAll(t, a, sample.Files(all)...)
		}
	}
}

// What is changed within 32 bits in a payload is found, and changes nothing else.
func TestBurstsInAPayloadAreFound(t *testing.T) {
	f, a := created(t)
	all := []api.File{sample.File("p", strings.Repeat("text ", 9)), sample.File("s", "stored"), sample.File("t", "streamed")}
	a.Put("p", all[0].Data, 2)
	a.Put("s", all[1].Data, -1)
	a.Begin("t")
	a.Write(all[2].Data)
	a.Finish()
	members := slices.Collect(a.List(""))
	want(t, "Close", a.Close(), api.OK)
	id, _ := f.Open("a")
	for i, m := range members {
		area, _ := f.Read(id, m.From, m.Area)
		for at, spoilt := range sample.Bursts(area, 28) {
			f.Write(id, m.From, spoilt)
			a = opened(t, f)
			for j, x := range all {
				data, e := a.Get(x.Name)
				if i == j && (e != api.ErrSum || len(data) != 0) || i != j && (e != api.OK || !bytes.Equal(data, x.Data)) {
					t.Fatalf("%q spoilt at %d: Get %q: %q %d", m.Name, at, x.Name, data, e)
				}
			}
		}
		f.Write(id, m.From, area)
	}
	wantAll(t, opened(t, f), all...)
}
