package names_test

import (
	"maps"
	"math"
	"slices"
	"strconv"
	"strings"
	"testing"

	"bindle/api"
	"bindle/names"
	"bindle/sample"
)

// long is the longest name that there may be, tooLong one of a byte more.
var (
	long    = strings.Repeat("n", 100)
	tooLong = strings.Repeat("n", 101)
)

func want(t *testing.T, what string, got, want api.Errno) {
	t.Helper()
	if got != want {
		t.Errorf("%s: %d, not %d", what, got, want)
	}
}

// wantDir holds all names of a directory, and what they stand for, against what there should be.
func wantDir(t *testing.T, what string, d *names.Dir, waiting int, there map[string]int) {
	t.Helper()
	if got, want := d.Names(), slices.Sorted(maps.Keys(there)); !slices.Equal(got, want) {
		t.Errorf("%s: names %q, not %q", what, got, want)
	}
	for name, want := range there {
		if id, ok := d.Lookup(name); id != want || !ok {
			t.Errorf("%s: Lookup(%q): %d %t, not %d", what, name, id, ok, want)
		}
	}
	if d.Waiting() != waiting {
		t.Errorf("%s: %d wait, not %d", what, d.Waiting(), waiting)
	}
}

func wantMissing(t *testing.T, what string, d *names.Dir, missing ...string) {
	t.Helper()
	for _, name := range missing {
		if id, ok := d.Lookup(name); id != 0 || ok {
			t.Errorf("%s: Lookup(%q): %d %t", what, name, id, ok)
		}
	}
}

func wantLinked(t *testing.T, what string, d *names.Dir, linked, not []int) {
	t.Helper()
	for _, id := range linked {
		if !d.Linked(id) {
			t.Errorf("%s: %d isn't linked", what, id)
		}
	}
	for _, id := range not {
		if d.Linked(id) {
			t.Errorf("%s: %d is linked", what, id)
		}
	}
}

// full is a directory of 16 names, which stand for 100 and on.
func full(t *testing.T) (*names.Dir, map[string]int) {
	t.Helper()
	var d names.Dir
	there := map[string]int{}
	for i := range 16 {
		name := "f" + strconv.Itoa(i)
		want(t, "Create "+name, d.Create(name, 100+i), api.OK)
		there[name] = 100 + i
	}
	return &d, there
}

// synced is a directory of a, b and c, which stand for 1, 2 and 3.
func synced(t *testing.T) *names.Dir {
	t.Helper()
	var d names.Dir
	want(t, "Create c", d.Create("c", 3), api.OK)
	want(t, "Create a", d.Create("a", 1), api.OK)
	want(t, "Create b", d.Create("b", 2), api.OK)
	d.Sync()
	return &d
}

// 5.1

func TestCreate(t *testing.T) {
	var d names.Dir
	want(t, "Create a", d.Create("a", 7), api.OK)
	wantDir(t, "one", &d, 1, map[string]int{"a": 7})
	want(t, "Create b, of the same number", d.Create("b", 7), api.OK)
	want(t, "Create, of no number above 0", d.Create("A", 0), api.OK)
	want(t, "Create, of a number below 0", d.Create("B", -5), api.OK)
	want(t, "Create, of the greatest number", d.Create("C", math.MaxInt), api.OK)
	wantDir(t, "five", &d, 5, map[string]int{"a": 7, "b": 7, "A": 0, "B": -5, "C": math.MaxInt})
	wantMissing(t, "five", &d, "c", "", "ab", "a\x00")
}

func TestCreateNames(t *testing.T) {
	var d names.Dir
	want(t, "of no bytes", d.Create("", 1), api.ErrName)
	want(t, "of 101 bytes", d.Create(tooLong, 1), api.ErrName)
	want(t, "of 1000 bytes", d.Create(strings.Repeat("n", 1000), 1), api.ErrName)
	want(t, "of 51 signs in 102 bytes", d.Create(strings.Repeat("\u00e4", 51), 1), api.ErrName)
	wantDir(t, "nothing was made", &d, 0, nil)
	want(t, "of 100 bytes", d.Create(long, 2), api.OK)
	want(t, "of 99 bytes", d.Create(long[1:], 3), api.OK)
	want(t, "of one byte", d.Create("\x00", 4), api.OK)
	want(t, "of bytes that are no text", d.Create("\xff\xfe/..", 5), api.OK)
	wantDir(t, "all bytes may be", &d, 4, map[string]int{long: 2, long[1:]: 3, "\x00": 4, "\xff\xfe/..": 5})
}

func TestCreateTwice(t *testing.T) {
	var d names.Dir
	want(t, "Create", d.Create("a", 1), api.OK)
	want(t, "Create anew", d.Create("a", 2), api.ErrExists)
	want(t, "Create anew, of the same number", d.Create("a", 1), api.ErrExists)
	wantDir(t, "the first one counts", &d, 1, map[string]int{"a": 1})
	wantLinked(t, "the first one counts", &d, []int{1}, []int{2})
}

func TestCreateAtTheLimit(t *testing.T) {
	d, there := full(t)
	wantDir(t, "sixteen", d, 16, there)
	want(t, "the seventeenth", d.Create("g", 1), api.ErrLimit)
	want(t, "no name, ahead of the limit", d.Create("", 1), api.ErrName)
	want(t, "one that is too long, ahead of the limit", d.Create(tooLong, 1), api.ErrName)
	want(t, "one that is there, ahead of the limit", d.Create("f3", 1), api.ErrExists)
	wantDir(t, "nothing was made", d, 16, there)
	wantLinked(t, "nothing was made", d, []int{100, 115}, []int{1})
	want(t, "Remove", d.Remove("f3"), api.OK)
	want(t, "the sixteenth anew", d.Create("g", 1), api.OK)
	want(t, "the seventeenth anew", d.Create("f3", 1), api.ErrLimit)
}

func TestRename(t *testing.T) {
	d := synced(t)
	want(t, "Rename", d.Rename("a", "z"), api.OK)
	wantDir(t, "to a new one", d, 1, map[string]int{"z": 1, "b": 2, "c": 3})
	wantMissing(t, "to a new one", d, "a")
	want(t, "Rename", d.Rename("z", "b"), api.OK)
	wantDir(t, "to one that is there", d, 2, map[string]int{"b": 1, "c": 3})
	wantMissing(t, "to one that is there", d, "a", "z")
	want(t, "Rename", d.Rename("b", "b"), api.OK)
	wantDir(t, "to itself", d, 3, map[string]int{"b": 1, "c": 3})
	want(t, "Rename", d.Rename("c", long), api.OK)
	wantDir(t, "to the longest", d, 4, map[string]int{"b": 1, long: 3})
}

func TestRenameRefused(t *testing.T) {
	d := synced(t)
	want(t, "to no name", d.Rename("a", ""), api.ErrName)
	want(t, "to one that is too long", d.Rename("a", tooLong), api.ErrName)
	want(t, "what isn't there, to no name", d.Rename("x", ""), api.ErrName)
	want(t, "what isn't there, to one that is too long", d.Rename("", tooLong), api.ErrName)
	want(t, "what isn't there", d.Rename("x", "y"), api.ErrNotFound)
	want(t, "what isn't there, to one that is", d.Rename("x", "a"), api.ErrNotFound)
	want(t, "what isn't there, to itself", d.Rename("x", "x"), api.ErrNotFound)
	want(t, "no name", d.Rename("", "y"), api.ErrNotFound)
	want(t, "what is too long to be there", d.Rename(tooLong, "y"), api.ErrNotFound)
	wantDir(t, "nothing was renamed", d, 0, map[string]int{"a": 1, "b": 2, "c": 3})
}

func TestRenameAtTheLimit(t *testing.T) {
	d, there := full(t)
	want(t, "Rename", d.Rename("f0", "g"), api.OK)
	delete(there, "f0")
	there["g"] = 100
	wantDir(t, "sixteen still", d, 17, there)
	want(t, "the seventeenth", d.Create("f0", 1), api.ErrLimit)
	want(t, "Rename", d.Rename("g", "f1"), api.OK)
	want(t, "the sixteenth anew", d.Create("f0", 1), api.OK)
}

func TestRemove(t *testing.T) {
	d := synced(t)
	want(t, "Remove", d.Remove("b"), api.OK)
	wantDir(t, "without b", d, 1, map[string]int{"a": 1, "c": 3})
	wantMissing(t, "without b", d, "b")
	want(t, "Remove anew", d.Remove("b"), api.ErrNotFound)
	want(t, "Remove of no name", d.Remove(""), api.ErrNotFound)
	want(t, "Remove of what is too long to be there", d.Remove(tooLong), api.ErrNotFound)
	wantDir(t, "nothing was removed", d, 1, map[string]int{"a": 1, "c": 3})
	want(t, "Create anew", d.Create("b", 9), api.OK)
	wantDir(t, "b anew", d, 2, map[string]int{"a": 1, "b": 9, "c": 3})
}

func TestRemoveAll(t *testing.T) {
	d := synced(t)
	for _, name := range []string{"a", "b", "c"} {
		want(t, "Remove", d.Remove(name), api.OK)
	}
	wantDir(t, "nothing is left", d, 3, nil)
}

// 5.2

func TestNamesByBytes(t *testing.T) {
	var d names.Dir
	for i, name := range []string{"b", "\xff", "ba", "B", "\u00e4", "a\xff", "a", "ab", " ", "\x00", "10", "9", "z"} {
		want(t, "Create", d.Create(name, i), api.OK)
	}
	sorted := []string{"\x00", " ", "10", "9", "B", "a", "ab", "a\xff", "b", "ba", "z", "\u00e4", "\xff"}
	for range 5 {
		if got := d.Names(); !slices.Equal(got, sorted) {
			t.Errorf("%q, not %q", got, sorted)
		}
	}
}

func TestNamesAreNewMemory(t *testing.T) {
	d := synced(t)
	got := d.Names()
	got[0], got[1] = "y", "x"
	wantDir(t, "behind a change of an answer", d, 0, map[string]int{"a": 1, "b": 2, "c": 3})
}

func TestZeroDir(t *testing.T) {
	var d names.Dir
	wantDir(t, "a zero one", &d, 0, nil)
	wantMissing(t, "a zero one", &d, "", "a")
	wantLinked(t, "a zero one", &d, nil, []int{-1, 0, 1})
	want(t, "Rename", d.Rename("a", "b"), api.ErrNotFound)
	want(t, "Remove", d.Remove("a"), api.ErrNotFound)
	d.Sync()
	d.Crash(5)
	wantDir(t, "behind a crash", &d, 0, nil)
	want(t, "Create", d.Create("a", 1), api.OK)
	d.Crash(1)
	wantDir(t, "made, and kept", &d, 0, map[string]int{"a": 1})
}

// Without a Sync nothing is safe.
func TestCrashAheadOfASync(t *testing.T) {
	for n := -1; n <= 4; n++ {
		var d names.Dir
		there := map[string]int{}
		for i, name := range []string{"a", "b", "c"} {
			want(t, "Create", d.Create(name, i), api.OK)
			if i < n {
				there[name] = i
			}
		}
		d.Crash(n)
		wantDir(t, "behind a crash", &d, 0, there)
	}
}

func TestSync(t *testing.T) {
	d := synced(t)
	wantDir(t, "synced", d, 0, map[string]int{"a": 1, "b": 2, "c": 3})
	want(t, "Remove", d.Remove("a"), api.OK)
	want(t, "Rename", d.Rename("b", "d"), api.OK)
	d.Sync()
	wantDir(t, "synced anew", d, 0, map[string]int{"c": 3, "d": 2})
	d.Crash(7)
	wantDir(t, "behind a crash", d, 0, map[string]int{"c": 3, "d": 2})
}

// What is safe isn't the map that is changed on.
func TestSyncKeepsACopy(t *testing.T) {
	d := synced(t)
	for range 2 {
		want(t, "Remove", d.Remove("a"), api.OK)
		want(t, "Create", d.Create("d", 4), api.OK)
		want(t, "Rename", d.Rename("b", "c"), api.OK)
		d.Crash(0)
		wantDir(t, "behind a crash", d, 0, map[string]int{"a": 1, "b": 2, "c": 3})
	}
}

func TestCrashExample(t *testing.T) {
	var d names.Dir
	want(t, "Create", d.Create("a", 1), api.OK)
	want(t, "Rename", d.Rename("a", "b"), api.OK)
	wantDir(t, "the example", &d, 2, map[string]int{"b": 1})
	d.Crash(1)
	wantDir(t, "behind the crash", &d, 0, map[string]int{"a": 1})
	wantMissing(t, "behind the crash", &d, "b")
	d.Crash(1)
	wantDir(t, "behind the next one", &d, 0, map[string]int{"a": 1})
}

func TestCrash(t *testing.T) {
	states := []map[string]int{
		{"a": 1, "b": 2, "c": 3},
		{"a": 1, "b": 2, "c": 3, "d": 4},
		{"b": 2, "c": 3, "d": 4},
		{"b": 2, "c": 4},
		{"b": 2, "c": 4},
		{"e": 2, "c": 4},
		{"e": 2, "c": 4, "b": 5},
	}
	for _, n := range []int{math.MinInt, -2, -1, 0, 1, 2, 3, 4, 5, 6, 7, 100, math.MaxInt} {
		d := synced(t)
		want(t, "Create", d.Create("d", 4), api.OK)
		want(t, "Remove", d.Remove("a"), api.OK)
		want(t, "Rename", d.Rename("d", "c"), api.OK)
		want(t, "Rename", d.Rename("c", "c"), api.OK)
		want(t, "Rename", d.Rename("b", "e"), api.OK)
		want(t, "Create", d.Create("b", 5), api.OK)
		wantDir(t, "ahead of the crash", d, 6, states[6])
		d.Crash(n)
		kept := states[min(max(n, 0), 6)]
		wantDir(t, "behind the crash", d, 0, kept)
		d.Crash(3)
		wantDir(t, "behind the next one", d, 0, kept)
		want(t, "Create", d.Create("z", 6), api.OK)
		d.Crash(0)
		wantDir(t, "behind the one that keeps nothing", d, 0, kept)
	}
}

func TestLinked(t *testing.T) {
	d := synced(t)
	wantLinked(t, "safe", d, []int{1, 2, 3}, []int{0, 4, -1})
	want(t, "Create", d.Create("d", 4), api.OK)
	wantLinked(t, "made", d, []int{1, 2, 3, 4}, []int{0, 5})
	want(t, "Remove", d.Remove("d"), api.OK)
	wantLinked(t, "made and removed", d, []int{1, 2, 3, 4}, []int{0, 5})
	want(t, "Rename", d.Rename("a", "b"), api.OK)
	wantLinked(t, "renamed over another one", d, []int{1, 2, 3, 4}, []int{0, 5})
	want(t, "Remove", d.Remove("b"), api.OK)
	wantLinked(t, "safe, but removed", d, []int{1, 2, 3, 4}, []int{0, 5})
	d.Sync()
	wantLinked(t, "synced", d, []int{3}, []int{0, 1, 2, 4, 5})
	want(t, "Create", d.Create("z", 0), api.OK)
	wantLinked(t, "made of number 0", d, []int{0, 3}, []int{1, 2, 4})
	d.Crash(0)
	wantLinked(t, "behind a crash that keeps none", d, []int{3}, []int{0, 1, 2, 4})
}

// Neither what is removed nor what is renamed brings a number: 0 isn't linked because nothing was said of it.
func TestLinkedByNoNumber(t *testing.T) {
	d := synced(t)
	want(t, "Remove", d.Remove("a"), api.OK)
	want(t, "Rename", d.Rename("b", "c"), api.OK)
	want(t, "Rename", d.Rename("c", "c"), api.OK)
	wantLinked(t, "nothing was made", d, []int{1, 2, 3}, []int{0})
}

func TestLinkedBehindACrash(t *testing.T) {
	d := synced(t)
	want(t, "Create", d.Create("d", 4), api.OK)
	want(t, "Rename", d.Rename("d", "a"), api.OK)
	want(t, "Create", d.Create("e", 5), api.OK)
	d.Crash(2)
	wantLinked(t, "two kept", d, []int{2, 3, 4}, []int{0, 1, 5})
}

func TestNilDir(t *testing.T) {
	var d *names.Dir
	for _, name := range []string{"", "a", long, tooLong} {
		want(t, "Create", d.Create(name, 1), api.ErrArg)
		want(t, "Rename", d.Rename(name, "b"), api.ErrArg)
		want(t, "Rename", d.Rename("b", name), api.ErrArg)
		want(t, "Remove", d.Remove(name), api.ErrArg)
		wantMissing(t, "a nil one", d, name)
	}
	d.Sync()
	for _, n := range []int{math.MinInt, 0, 1, math.MaxInt} {
		d.Crash(n)
		wantLinked(t, "a nil one", d, nil, []int{n})
	}
	wantDir(t, "a nil one", d, 0, nil)
}

// 5.3

// slow is a directory by the chapter's words: all its states, from the safe one to that of now.
type slow []map[string]int

func (s slow) now() map[string]int {
	return s[len(s)-1]
}

func (s slow) with(change func(map[string]int)) slow {
	next := maps.Clone(s.now())
	change(next)
	return append(s, next)
}

func (s slow) create(name string, id int) (slow, api.Errno) {
	if name == "" || len(name) > 100 {
		return s, api.ErrName
	}
	if _, there := s.now()[name]; there {
		return s, api.ErrExists
	}
	if len(s.now()) == 16 {
		return s, api.ErrLimit
	}
	return s.with(func(next map[string]int) { next[name] = id }), api.OK
}

func (s slow) rename(from, to string) (slow, api.Errno) {
	if to == "" || len(to) > 100 {
		return s, api.ErrName
	}
	id, there := s.now()[from]
	if !there {
		return s, api.ErrNotFound
	}
	return s.with(func(next map[string]int) {
		delete(next, from)
		next[to] = id
	}), api.OK
}

func (s slow) remove(name string) (slow, api.Errno) {
	if _, there := s.now()[name]; !there {
		return s, api.ErrNotFound
	}
	return s.with(func(next map[string]int) { delete(next, name) }), api.OK
}

func (s slow) linked(id int) bool {
	for _, state := range s {
		for _, stands := range state {
			if stands == id {
				return true
			}
		}
	}
	return false
}

func TestByTheWords(t *testing.T) {
	var few []string
	for i := range 18 {
		few = append(few, "n"+strconv.Itoa(i))
	}
	few = append(few, "", long, tooLong)
	dice := sample.Dice(1)
	for range 40 {
		var d names.Dir
		s := slow{{}}
		for step := range 150 {
			name, other := few[dice(len(few))], few[dice(len(few))]
			var e api.Errno
			switch x := dice(40); {
			case x < 20:
				s, e = s.create(name, step%23)
				want(t, "Create", d.Create(name, step%23), e)
			case x < 31:
				s, e = s.rename(name, other)
				want(t, "Rename", d.Rename(name, other), e)
			case x < 37:
				s, e = s.remove(name)
				want(t, "Remove", d.Remove(name), e)
			case x < 38:
				s = slow{s.now()}
				d.Sync()
			default:
				n := dice(len(s)+4) - 2
				s = slow{s[min(max(n, 0), len(s)-1)]}
				d.Crash(n)
			}
			wantDir(t, "by the words", &d, len(s)-1, s.now())
			for id := range 24 {
				if d.Linked(id) != s.linked(id) {
					t.Fatalf("Linked(%d): %t, not %t", id, d.Linked(id), s.linked(id))
				}
			}
		}
	}
}

func TestACrashThatKeepsAllIsNone(t *testing.T) {
	d := synced(t)
	want(t, "Rename", d.Rename("a", "d"), api.OK)
	want(t, "Create", d.Create("a", 4), api.OK)
	want(t, "Remove", d.Remove("b"), api.OK)
	d.Crash(d.Waiting())
	wantDir(t, "all kept", d, 0, map[string]int{"a": 4, "c": 3, "d": 1})
}

// Whatever the crash keeps, what was renamed is there under just one of both names.
func TestWhatWasRenamedIsThere(t *testing.T) {
	for n := range 5 {
		d := synced(t)
		want(t, "Create", d.Create("new", 4), api.OK)
		want(t, "Rename", d.Rename("new", "a"), api.OK)
		want(t, "Rename", d.Rename("b", "old"), api.OK)
		d.Crash(n)
		if id, ok := d.Lookup("a"); !ok || id != 1 && id != 4 {
			t.Errorf("Crash(%d): a is %d %t", n, id, ok)
		}
		_, before := d.Lookup("b")
		_, behind := d.Lookup("old")
		if before == behind {
			t.Errorf("Crash(%d): b is there: %t, old is there: %t", n, before, behind)
		}
	}
}
