package crashfs_test

import (
	"bytes"
	"math"
	"slices"
	"strconv"
	"strings"
	"testing"

	"bindle/api"
	"bindle/crashfs"
	"bindle/disk"
	"bindle/names"
	"bindle/sample"
)

const sector = 512

func want(t *testing.T, what string, got, want api.Errno) {
	t.Helper()
	if got != want {
		t.Errorf("%s: %d, not %d", what, got, want)
	}
}

func wantInt(t *testing.T, what string, got, want int) {
	t.Helper()
	if got != want {
		t.Errorf("%s: %d, not %d", what, got, want)
	}
}

// wantCreate makes a file that should have this number.
func wantCreate(t *testing.T, f *crashfs.FS, name string, id int) {
	t.Helper()
	if got, e := f.Create(name); got != id || e != api.OK {
		t.Fatalf("Create %q: %d %d, not %d", name, got, e, id)
	}
}

// wantNone makes no file, for this error.
func wantNone(t *testing.T, f *crashfs.FS, name string, want api.Errno) {
	t.Helper()
	if got, e := f.Create(name); got != 0 || e != want {
		t.Errorf("Create %q: %d %d, not %d", name, got, e, want)
	}
}

func wantOpen(t *testing.T, f *crashfs.FS, name string, id int, want api.Errno) {
	t.Helper()
	if got, e := f.Open(name); got != id || e != want {
		t.Errorf("Open %q: %d %d, not %d %d", name, got, e, id, want)
	}
}

func wantRead(t *testing.T, f *crashfs.FS, id, at int, want []byte) {
	t.Helper()
	got, e := f.Read(id, at, len(want))
	if e != api.OK || !bytes.Equal(got, want) {
		t.Errorf("Read(%d, %d): %x %d, not %x", id, at, got, e, want)
	}
}

func wantNames(t *testing.T, f *crashfs.FS, want ...string) {
	t.Helper()
	if got := f.Names(); !slices.Equal(got, want) {
		t.Errorf("names %q, not %q", got, want)
	}
}

// wantState holds the counts against what there should be.
func wantState(t *testing.T, what string, f *crashfs.FS, used, waiting, all, refused int) {
	t.Helper()
	a, r := f.Calls()
	if f.Used() != used || f.Waiting() != waiting || a != all || r != refused {
		t.Errorf("%s: %d used, %d wait, %d calls, %d refused, not %d, %d, %d, %d", what, f.Used(), f.Waiting(), a, r, used, waiting, all, refused)
	}
}

// two is a file system of two files of two sectors each, all of it safe: six calls.
func two(t *testing.T, capacity int) *crashfs.FS {
	t.Helper()
	f := crashfs.New(capacity)
	wantCreate(t, f, "a", 0)
	wantCreate(t, f, "b", 1)
	want(t, "Write a", f.Write(0, 0, bytes.Repeat([]byte("a"), 2*sector)), api.OK)
	want(t, "Write b", f.Write(1, 0, bytes.Repeat([]byte("b"), 2*sector)), api.OK)
	want(t, "Sync a", f.Sync(0), api.OK)
	want(t, "Sync b", f.Sync(1), api.OK)
	want(t, "SyncDir", f.SyncDir(), api.OK)
	return f
}

// 6.1

func TestExample(t *testing.T) {
	f := crashfs.New(100)
	f.Refuse([]int{2})
	wantCreate(t, f, "a", 0)
	want(t, "Write", f.Write(0, 0, []byte{1}), api.ErrIO)
	wantState(t, "the example", f, 0, 0, 2, 1)
	wantInt(t, "size", f.Size(0), 0)
	want(t, "Write anew", f.Write(0, 0, []byte{1}), api.OK)
	wantState(t, "behind it", f, 1, 1, 3, 1)
}

// The room is asked for by a disk that no name stands for: the sixteen that there may be beside it can take all that there is.
func TestNew(t *testing.T) {
	for _, x := range []struct{ capacity, room int }{{-1, 0}, {math.MinInt, 0}, {0, 0}, {1, 1}, {4096, 4096}, {65535, 65535}, {65536, 65536}, {65537, 65536}, {math.MaxInt, 65536}} {
		f := crashfs.New(x.capacity)
		wantNames(t, f)
		wantState(t, "an empty one", f, 0, 0, 0, 0)
		wantCreate(t, f, "loose", 0)
		want(t, "Remove", f.Remove("loose"), api.OK)
		want(t, "SyncDir", f.SyncDir(), api.OK)
		left := x.room
		for id := 1; left > 0; id++ {
			wantCreate(t, f, strconv.Itoa(id), id)
			n := min(left, 4096)
			want(t, "the last byte of a disk", f.Write(id, n*sector-1, []byte{1}), api.OK)
			left -= n
		}
		wantInt(t, "used", f.Used(), x.room)
		want(t, "one sector more", f.Write(0, 0, []byte{1}), api.ErrNoSpace)
	}
}

func TestCreate(t *testing.T) {
	f := crashfs.New(10)
	wantCreate(t, f, "a", 0)
	wantNone(t, f, "a", api.ErrExists)
	wantNone(t, f, "", api.ErrName)
	wantNone(t, f, strings.Repeat("n", 101), api.ErrName)
	wantCreate(t, f, strings.Repeat("n", 100), 1)
	wantInt(t, "size", f.Size(1), 0)
	for i := 2; i < 16; i++ {
		wantCreate(t, f, "c"+strconv.Itoa(i), i)
	}
	wantNone(t, f, "more", api.ErrLimit)
	wantNone(t, f, "", api.ErrName)
	wantNone(t, f, "a", api.ErrExists)
	want(t, "Remove", f.Remove("a"), api.OK)
	wantCreate(t, f, "a", 16)
	wantOpen(t, f, "a", 16, api.OK)
	wantState(t, "all calls", f, 0, 0, 24, 0)
}

func TestCreateAtTheLimitOfDisks(t *testing.T) {
	f := crashfs.New(10)
	for i := range 1000 {
		wantCreate(t, f, "a", i)
		want(t, "Remove", f.Remove("a"), api.OK)
	}
	wantNone(t, f, "a", api.ErrLimit)
	wantNone(t, f, "", api.ErrLimit)
	want(t, "SyncDir", f.SyncDir(), api.OK)
	wantNone(t, f, "a", api.ErrLimit)
	want(t, "Write of the last disk", f.Write(999, 0, []byte{1}), api.OK)
	want(t, "Write of no disk", f.Write(1000, 0, []byte{1}), api.ErrArg)
	f.Refuse([]int{2007})
	wantNone(t, f, "a", api.ErrIO)
	wantState(t, "all calls", f, 0, 1, 2007, 1)
}

func TestOpen(t *testing.T) {
	f := two(t, 10)
	wantOpen(t, f, "a", 0, api.OK)
	wantOpen(t, f, "b", 1, api.OK)
	wantOpen(t, f, "c", 0, api.ErrNotFound)
	wantOpen(t, f, "", 0, api.ErrNotFound)
	want(t, "Rename", f.Rename("b", "c"), api.OK)
	wantOpen(t, f, "c", 1, api.OK)
	wantOpen(t, f, "b", 0, api.ErrNotFound)
	wantState(t, "Open isn't counted", f, 4, 0, 8, 0)
}

func TestWrite(t *testing.T) {
	f := crashfs.New(10)
	wantCreate(t, f, "a", 0)
	wantCreate(t, f, "b", 1)
	b := []byte("abc")
	want(t, "Write", f.Write(1, 511, b), api.OK)
	b[0] = 'x'
	wantRead(t, f, 1, 510, []byte("\x00abc\x00"))
	wantRead(t, f, 0, 510, make([]byte, 5))
	wantInt(t, "size", f.Size(1), 2)
	wantInt(t, "size of the other one", f.Size(0), 0)
	want(t, "of no bytes", f.Write(1, 100000, nil), api.OK)
	wantState(t, "two sectors", f, 2, 2, 4, 0)
}

func TestWriteRefused(t *testing.T) {
	f := two(t, 4)
	one := []byte{1}
	whole := 4096 * sector
	for _, id := range []int{-1, 2, 1000, math.MinInt, math.MaxInt} {
		want(t, "no such disk", f.Write(id, 0, one), api.ErrArg)
		want(t, "no such disk, of no bytes", f.Write(id, 0, nil), api.ErrArg)
	}
	for _, at := range []int{-1, math.MinInt, whole, whole + 1, math.MaxInt} {
		want(t, "no such place", f.Write(0, at, one), api.ErrArg)
	}
	want(t, "too long", f.Write(0, 0, make([]byte, whole+1)), api.ErrArg)
	wantState(t, "ErrArg is counted, but not as refused", f, 4, 0, 23, 0)
	want(t, "above the capacity", f.Write(0, whole-1, one), api.ErrNoSpace)
	want(t, "a sector above the capacity", f.Write(0, 2*sector, one), api.ErrNoSpace)
	want(t, "into the sectors that are there", f.Write(0, 0, make([]byte, 2*sector+1)), api.ErrNoSpace)
	wantState(t, "ErrNoSpace is counted as refused", f, 4, 0, 26, 3)
	wantRead(t, f, 0, 0, bytes.Repeat([]byte("a"), 2*sector))
	wantRead(t, f, 1, 0, bytes.Repeat([]byte("b"), 2*sector))
	want(t, "what is there may be written", f.Write(0, 0, make([]byte, 2*sector)), api.OK)
	want(t, "no bytes may be written at the end", f.Write(0, whole, nil), api.OK)
	want(t, "no bytes may not be written behind it", f.Write(0, whole+1, nil), api.ErrArg)
	wantState(t, "the last ones", f, 4, 2, 29, 3)
}

func TestRead(t *testing.T) {
	f := two(t, 10)
	wantRead(t, f, 0, 1020, []byte("aaaa\x00\x00"))
	wantRead(t, f, 1, 0, nil)
	for _, x := range []struct{ id, at, n int }{{-1, 0, 1}, {2, 0, 1}, {2, 0, 0}, {math.MinInt, 0, 0}, {math.MaxInt, 0, 0}, {0, -1, 1}, {0, 0, -1}, {0, 4096 * sector, 1}, {0, math.MaxInt, math.MaxInt}} {
		if b, e := f.Read(x.id, x.at, x.n); len(b) != 0 || e != api.ErrArg {
			t.Errorf("Read(%d, %d, %d): %x %d", x.id, x.at, x.n, b, e)
		}
	}
	got, _ := f.Read(0, 0, 3)
	got[0] = 'x'
	wantRead(t, f, 0, 0, []byte("aaa"))
	wantState(t, "Read isn't counted", f, 4, 0, 7, 0)
}

func TestSyncs(t *testing.T) {
	f := crashfs.New(10)
	wantCreate(t, f, "a", 0)
	wantCreate(t, f, "b", 1)
	want(t, "Write", f.Write(0, 0, []byte("a")), api.OK)
	want(t, "Write", f.Write(1, 0, []byte("b")), api.OK)
	want(t, "Sync of one", f.Sync(1), api.OK)
	wantInt(t, "the other one waits", f.Waiting(), 1)
	for _, id := range []int{-1, 2, math.MinInt, math.MaxInt} {
		want(t, "Sync of none", f.Sync(id), api.ErrArg)
	}
	want(t, "SyncDir", f.SyncDir(), api.OK)
	wantState(t, "counted all", f, 2, 1, 10, 0)
	f.Crash(api.Crash{Fill: 5})
	wantNames(t, f, "a", "b")
	wantRead(t, f, 0, 0, []byte{5, 6, 7})
	wantRead(t, f, 1, 0, []byte{'b', 0, 0})
}

func TestRenameAndRemove(t *testing.T) {
	f := two(t, 10)
	want(t, "Rename", f.Rename("a", "c"), api.OK)
	want(t, "Rename to no name", f.Rename("x", ""), api.ErrName)
	want(t, "Rename of none", f.Rename("a", "d"), api.ErrNotFound)
	want(t, "Rename over another one", f.Rename("c", "b"), api.OK)
	wantNames(t, f, "b")
	wantOpen(t, f, "b", 0, api.OK)
	want(t, "Remove of none", f.Remove("c"), api.ErrNotFound)
	want(t, "Remove", f.Remove("b"), api.OK)
	wantNames(t, f)
	wantState(t, "all counted", f, 4, 0, 13, 0)
	f.Crash(api.Crash{Names: 1})
	wantNames(t, f, "b", "c")
}

func TestRefuseEachCall(t *testing.T) {
	calls := []struct {
		what string
		call func(f *crashfs.FS) api.Errno
	}{
		{"Create", func(f *crashfs.FS) api.Errno { _, e := f.Create("c"); return e }},
		{"Create of no name", func(f *crashfs.FS) api.Errno { _, e := f.Create(""); return e }},
		{"Write", func(f *crashfs.FS) api.Errno { return f.Write(0, 0, []byte("x")) }},
		{"Write that grows", func(f *crashfs.FS) api.Errno { return f.Write(0, 1024, []byte("x")) }},
		{"Write without room", func(f *crashfs.FS) api.Errno { return f.Write(0, 9999, []byte("x")) }},
		{"Write of no disk", func(f *crashfs.FS) api.Errno { return f.Write(-1, 0, []byte("x")) }},
		{"Sync", func(f *crashfs.FS) api.Errno { return f.Sync(0) }},
		{"Sync of no disk", func(f *crashfs.FS) api.Errno { return f.Sync(2) }},
		{"SyncDir", func(f *crashfs.FS) api.Errno { return f.SyncDir() }},
		{"Rename", func(f *crashfs.FS) api.Errno { return f.Rename("a", "c") }},
		{"Rename to no name", func(f *crashfs.FS) api.Errno { return f.Rename("a", "") }},
		{"Remove", func(f *crashfs.FS) api.Errno { return f.Remove("a") }},
		{"Remove of none", func(f *crashfs.FS) api.Errno { return f.Remove("x") }},
	}
	for _, x := range calls {
		f := two(t, 5)
		want(t, "Write of what waits", f.Write(0, 0, []byte("y")), api.OK)
		want(t, "Remove of what waits", f.Remove("b"), api.OK)
		f.Refuse([]int{12, 10})
		want(t, x.what, x.call(f), api.ErrIO)
		wantState(t, x.what, f, 4, 1, 10, 1)
		wantNames(t, f, "a")
		wantRead(t, f, 0, 0, []byte("ya"))
		f.Crash(api.Crash{Names: 0})
		wantNames(t, f, "a", "b")
		wantRead(t, f, 0, 0, []byte("aa"))
		wantState(t, x.what+", behind a crash", f, 4, 0, 10, 1)
	}
}

func TestRefuse(t *testing.T) {
	f := crashfs.New(10)
	numbers := []int{9, 4, 4, 0, -3, 2, math.MaxInt, math.MinInt, 5}
	f.Refuse(numbers)
	if !slices.Equal(numbers, []int{9, 4, 4, 0, -3, 2, math.MaxInt, math.MinInt, 5}) {
		t.Errorf("the argument was changed: %d", numbers)
	}
	numbers[0], numbers[1] = 1, 3
	for i := 1; i <= 12; i++ {
		e := api.OK
		if i == 2 || i == 4 || i == 5 || i == 9 {
			e = api.ErrIO
		}
		want(t, "call "+strconv.Itoa(i), f.SyncDir(), e)
	}
	wantState(t, "four were refused", f, 0, 0, 12, 4)
}

func TestRefuseOthers(t *testing.T) {
	f := crashfs.New(10)
	f.Refuse([]int{1, 2, 3})
	want(t, "the first one", f.SyncDir(), api.ErrIO)
	f.Refuse([]int{1, 3})
	want(t, "2 isn't refused any more", f.SyncDir(), api.OK)
	want(t, "3 is", f.SyncDir(), api.ErrIO)
	f.Refuse([]int{4, 5, 1, 2, 3})
	f.Refuse(nil)
	want(t, "nothing is", f.SyncDir(), api.OK)
	f.Refuse([]int{5})
	f.Refuse([]int{})
	want(t, "nothing is anew", f.SyncDir(), api.OK)
	wantState(t, "all", f, 0, 0, 5, 2)
}

// 6.2

func TestSizes(t *testing.T) {
	f := two(t, 10)
	wantInt(t, "size", f.Size(0), 2)
	for _, id := range []int{-1, 2, math.MinInt, math.MaxInt} {
		wantInt(t, "size of none", f.Size(id), 0)
	}
	want(t, "Write", f.Write(1, 3*sector, []byte{1}), api.OK)
	wantInt(t, "size of what grew", f.Size(1), 4)
	wantState(t, "used", f, 6, 1, 8, 0)
}

// What is removed is used till that is safe.
func TestUsed(t *testing.T) {
	f := two(t, 4)
	want(t, "Remove", f.Remove("a"), api.OK)
	wantInt(t, "removed", f.Used(), 4)
	wantCreate(t, f, "c", 2)
	want(t, "no room", f.Write(2, 0, []byte{1}), api.ErrNoSpace)
	want(t, "SyncDir", f.SyncDir(), api.OK)
	wantInt(t, "removed for good", f.Used(), 2)
	want(t, "room", f.Write(2, 0, make([]byte, 2*sector)), api.OK)
	wantInt(t, "used anew", f.Used(), 4)
	want(t, "Remove", f.Remove("c"), api.OK)
	wantInt(t, "made and removed, not synced", f.Used(), 4)
	f.Crash(api.Crash{Names: 1})
	wantInt(t, "behind the crash", f.Used(), 2)
	wantNames(t, f, "b")
}

// A disk that no name stands for is still one.
func TestLooseDisk(t *testing.T) {
	f := two(t, 5)
	want(t, "Remove", f.Remove("a"), api.OK)
	want(t, "SyncDir", f.SyncDir(), api.OK)
	wantRead(t, f, 0, 0, []byte("aa"))
	want(t, "Write", f.Write(0, 4*sector, []byte("x")), api.OK)
	wantState(t, "it isn't used, but waits", f, 2, 1, 10, 0)
	wantInt(t, "size", f.Size(0), 5)
	want(t, "what it grows by counts", f.Write(0, 9*sector, []byte("x")), api.ErrNoSpace)
	want(t, "what it grows by counts", f.Write(0, 7*sector, []byte("x")), api.OK)
	f.Crash(api.Crash{Keep: []bool{true, false}, Fill: 1})
	wantRead(t, f, 0, 4*sector, []byte{'x', 0, 0})
	wantRead(t, f, 0, 7*sector, []byte{1 + 49, 2 + 49})
	wantNone(t, f, "b", api.ErrExists)
	wantCreate(t, f, "a", 2)
}

func TestCrashKeeps(t *testing.T) {
	const fill = 100
	for _, x := range []struct {
		keep string
		kept string
	}{
		{"", ""}, {"0", ""}, {"1", "a"}, {"01", "b"}, {"001", "B"}, {"0001", "c"}, {"00001", ""}, {"1111", "abBc"}, {"11111111", "abBc"}, {"1010", "aB"}, {"0101", "bc"}, {"11", "ab"}, {"111", "abB"},
	} {
		f := crashfs.New(20)
		for id, name := range []string{"a", "b", "empty", "c"} {
			wantCreate(t, f, name, id)
		}
		want(t, "SyncDir", f.SyncDir(), api.OK)
		want(t, "Write c", f.Write(3, 0, []byte("c")), api.OK)
		want(t, "Write a", f.Write(0, 0, []byte("a")), api.OK)
		want(t, "Write b", f.Write(1, 0, []byte("b")), api.OK)
		want(t, "Write B", f.Write(1, sector, []byte("B")), api.OK)
		var keep []bool
		for _, c := range x.keep {
			keep = append(keep, c == '1')
		}
		before := slices.Clone(keep)
		f.Crash(api.Crash{Keep: keep, Fill: fill})
		if !slices.Equal(keep, before) {
			t.Errorf("the argument was changed: %t", keep)
		}
		for _, s := range []struct {
			mark  byte
			id    int
			place int
		}{{'a', 0, 0}, {'b', 1, 0}, {'B', 1, 1}, {'c', 3, 0}} {
			first := byte(fill + 7*s.place)
			there := []byte{first, first + 1}
			if strings.IndexByte(x.kept, s.mark) >= 0 {
				there = []byte{s.mark, 0}
			}
			wantRead(t, f, s.id, s.place*sector, there)
		}
		wantState(t, "keep "+x.keep, f, 4, 0, 9, 0)
		wantInt(t, "the empty one", f.Size(2), 0)
	}
}

func TestCrashNames(t *testing.T) {
	states := [][]string{nil, {"a"}, {"a", "b"}, {"a", "c"}, {"b", "c"}, {"b"}}
	for _, n := range []int{math.MinInt, -1, 0, 1, 2, 3, 4, 5, 6, math.MaxInt} {
		f := crashfs.New(10)
		wantCreate(t, f, "a", 0)
		wantCreate(t, f, "b", 1)
		want(t, "Rename", f.Rename("b", "c"), api.OK)
		want(t, "Rename", f.Rename("a", "b"), api.OK)
		want(t, "Remove", f.Remove("c"), api.OK)
		f.Crash(api.Crash{Names: n})
		for range 2 {
			wantNames(t, f, states[min(max(n, 0), 5)]...)
			f.Crash(api.Crash{Names: 3})
		}
		wantState(t, "behind the crashes", f, 0, 0, 5, 0)
	}
}

func TestCrashEndsRefusals(t *testing.T) {
	f := crashfs.New(10)
	f.Refuse([]int{1, 2, 3, 4, 5})
	wantNone(t, f, "a", api.ErrIO)
	f.Crash(api.Crash{})
	wantCreate(t, f, "a", 0)
	wantState(t, "calls are counted on", f, 0, 0, 2, 1)
	f.Refuse([]int{3})
	want(t, "refused anew", f.Sync(0), api.ErrIO)
}

func TestNil(t *testing.T) {
	var f *crashfs.FS
	f.Refuse([]int{1})
	f.Crash(api.Crash{Keep: []bool{true}, Names: 1, Fill: 1})
	wantNone(t, f, "a", api.ErrArg)
	wantOpen(t, f, "a", 0, api.ErrArg)
	want(t, "Write", f.Write(0, 0, []byte{1}), api.ErrArg)
	want(t, "Write of no bytes", f.Write(0, 0, nil), api.ErrArg)
	want(t, "Sync", f.Sync(0), api.ErrArg)
	want(t, "SyncDir", f.SyncDir(), api.ErrArg)
	want(t, "Rename", f.Rename("a", ""), api.ErrArg)
	want(t, "Remove", f.Remove("a"), api.ErrArg)
	if b, e := f.Read(0, 0, 0); len(b) != 0 || e != api.ErrArg {
		t.Errorf("Read: %x %d", b, e)
	}
	wantInt(t, "size", f.Size(0), 0)
	wantNames(t, f)
	wantState(t, "a nil one", f, 0, 0, 0, 0)
}

// 6.3

// slow is a file system by the chapter's words, of disks and names.
type slow struct {
	disks        []*disk.Disk
	dir          names.Dir
	capacity     int
	all, refused int
	refuse       map[int]bool
}

func (s *slow) counted() bool {
	s.all++
	if s.refuse[s.all] {
		s.refused++
		return false
	}
	return true
}

func (s *slow) used() int {
	n := 0
	for id, d := range s.disks {
		if s.dir.Linked(id) {
			n += d.Size()
		}
	}
	return n
}

func (s *slow) create(name string) (int, api.Errno) {
	if !s.counted() {
		return 0, api.ErrIO
	}
	if len(s.disks) == 1000 {
		return 0, api.ErrLimit
	}
	if e := s.dir.Create(name, len(s.disks)); e != api.OK {
		return 0, e
	}
	s.disks = append(s.disks, new(disk.Disk))
	return len(s.disks) - 1, api.OK
}

func (s *slow) write(id, at int, b []byte) api.Errno {
	if !s.counted() {
		return api.ErrIO
	}
	if id < 0 || id >= len(s.disks) {
		return api.ErrArg
	}
	need, ok := s.disks[id].Need(at, len(b))
	if !ok {
		return api.ErrArg
	}
	if s.used()+need-s.disks[id].Size() > s.capacity {
		s.refused++
		return api.ErrNoSpace
	}
	return s.disks[id].Write(at, b)
}

func (s *slow) sync(id int) api.Errno {
	if !s.counted() {
		return api.ErrIO
	}
	if id < 0 || id >= len(s.disks) {
		return api.ErrArg
	}
	s.disks[id].Sync()
	return api.OK
}

func (s *slow) waiting() int {
	n := 0
	for _, d := range s.disks {
		n += d.Waiting()
	}
	return n
}

func (s *slow) crash(c api.Crash) {
	place := 0
	for _, d := range s.disks {
		var keep []bool
		for range d.Waiting() {
			keep = append(keep, place < len(c.Keep) && c.Keep[place])
			place++
		}
		d.Crash(keep, c.Fill)
	}
	s.dir.Crash(c.Names)
	s.refuse = nil
}

// same holds all that can be asked of both against one another.
func same(t *testing.T, f *crashfs.FS, s *slow) {
	t.Helper()
	wantState(t, "by the words", f, s.used(), s.waiting(), s.all, s.refused)
	if f.Used() > s.capacity {
		t.Errorf("%d used of %d", f.Used(), s.capacity)
	}
	wantNames(t, f, s.dir.Names()...)
	for _, name := range s.dir.Names() {
		id, _ := s.dir.Lookup(name)
		wantOpen(t, f, name, id, api.OK)
	}
	for id, d := range s.disks {
		wantInt(t, "size", f.Size(id), d.Size())
		b, _ := d.Read(0, d.Size()*sector)
		if got, _ := f.Read(id, 0, d.Size()*sector); !bytes.Equal(got, b) {
			t.Errorf("disk %d has other bytes", id)
		}
	}
}

func TestByTheWords(t *testing.T) {
	dice := sample.Dice(7)
	few := []string{"a", "b", "c", "d", ""}
	for round := range 60 {
		f := crashfs.New(round % 20)
		s := &slow{capacity: round % 20}
		for range 60 {
			name, other, id := few[dice(5)], few[dice(5)], dice(len(s.disks)+2)-1
			switch x := dice(30); {
			case x < 6:
				id, e := s.create(name)
				if got, ge := f.Create(name); got != id || ge != e {
					t.Errorf("Create %q: %d %d, not %d %d", name, got, ge, id, e)
				}
			case x < 16:
				at, b := dice(3000), bytes.Repeat([]byte{byte(dice(256))}, dice(1200))
				want(t, "Write", f.Write(id, at, b), s.write(id, at, b))
			case x < 18:
				want(t, "Sync", f.Sync(id), s.sync(id))
			case x < 20:
				e := api.ErrIO
				if s.counted() {
					s.dir.Sync()
					e = api.OK
				}
				want(t, "SyncDir", f.SyncDir(), e)
			case x < 23:
				e := api.ErrIO
				if s.counted() {
					e = s.dir.Rename(name, other)
				}
				want(t, "Rename", f.Rename(name, other), e)
			case x < 25:
				e := api.ErrIO
				if s.counted() {
					e = s.dir.Remove(name)
				}
				want(t, "Remove", f.Remove(name), e)
			case x < 28:
				numbers := []int{s.all + dice(6), s.all + dice(6), s.all + dice(6)}
				s.refuse = map[int]bool{numbers[0]: true, numbers[1]: true, numbers[2]: true}
				f.Refuse(numbers)
			default:
				c := api.Crash{Keep: make([]bool, dice(s.waiting()+3)), Names: dice(s.dir.Waiting()+3) - 1, Fill: byte(dice(256))}
				for i := range c.Keep {
					c.Keep[i] = dice(2) == 0
				}
				s.crash(c)
				f.Crash(c)
			}
			same(t, f, s)
			if t.Failed() {
				t.Fatalf("in round %d", round)
			}
		}
	}
}
