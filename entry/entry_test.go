package entry_test

import (
	"bytes"
	"encoding/binary"
	"math"
	"slices"
	"strings"
	"testing"

	"bindle/api"
	"bindle/entry"
	"bindle/local"
	"bindle/sample"
)

const (
	begin    = 1024
	farthest = 1 << 30
	maxArea  = 262144
	maxData  = 65536
)

// made is a member whose payload begins where it should.
func made(name string, at, size, area int, sum uint32, method int) api.Member {
	return api.Member{Name: name, At: at, From: at + 22 + len(name), Area: area, Size: size, Sum: sum, Method: method}
}

// raw is a member's bytes by the chapter's words, whether it may be or not.
func raw(method, length byte, at, size, area, sum uint32, name string) []byte {
	b := []byte{method, length}
	for _, n := range []uint32{at, size, area, sum} {
		b = binary.LittleEndian.AppendUint32(b, n)
	}
	return append(b, name...)
}

// slow is the bytes of members by the chapter's words.
func slow(l []api.Member) []byte {
	var b []byte
	for _, m := range l {
		b = append(b, raw(byte(m.Method), byte(len(m.Name)), uint32(m.At), uint32(m.Size), uint32(m.Area), m.Sum, m.Name)...)
	}
	return b
}

func long(n int) string {
	return strings.Repeat("n", n)
}

// many is n members, whose names rise, each as long as it may be.
func many(n int) []api.Member {
	var l []api.Member
	for i := range n {
		name := string(rune('a'+i/26)) + string(rune('a'+i%26)) + long(62)
		l = append(l, made(name, begin+1000*(n-i), i, i, uint32(i)*77777777, i%3))
	}
	return l
}

func right() []api.Member {
	return []api.Member{
		made("a", begin, 0, 0, 0, api.Stored),
		made("a", farthest, 0, 0, math.MaxUint32, api.Streamed),
		made("a/b", 2000, maxData, maxArea, 1, api.Streamed),
		made("a/b", 2000, maxData, 0, 1, api.Packed),
		made("~", 2000, 0, maxArea, 9, api.Stored),
		made(long(64), begin, 3, 4, 9, api.Stored),
	}
}

func wrong() []api.Member {
	l := []api.Member{
		{},
		made("", begin, 0, 0, 0, api.Stored),
		made("a//b", begin, 0, 0, 0, api.Stored),
		made("..", begin, 0, 0, 0, api.Stored),
		made(long(65), begin, 0, 0, 0, api.Stored),
		made("a", begin-1, 0, 0, 0, api.Stored),
		made("a", 0, 0, 0, 0, api.Stored),
		made("a", -1, 0, 0, 0, api.Stored),
		made("a", farthest+1, 0, 0, 0, api.Stored),
		made("a", 1<<32+begin, 0, 0, 0, api.Stored),
		made("a", math.MinInt, 0, 0, 0, api.Stored),
		made("a", math.MaxInt, 0, 0, 0, api.Stored),
		made("a", begin, -1, 0, 0, api.Stored),
		made("a", begin, maxData+1, 0, 0, api.Stored),
		made("a", begin, 1<<32, 0, 0, api.Stored),
		made("a", begin, math.MaxInt, 0, 0, api.Stored),
		made("a", begin, 0, -1, 0, api.Stored),
		made("a", begin, 0, maxArea+1, 0, api.Stored),
		made("a", begin, 0, 1<<32, 0, api.Stored),
		made("a", begin, 0, math.MinInt, 0, api.Stored),
		made("a", begin, 0, 0, 0, -1),
		made("a", begin, 0, 0, 0, 3),
		made("a", begin, 0, 0, 0, 256),
		made("a", begin, 0, 0, 0, math.MaxInt),
	}
	for _, off := range []int{-1, 1, -23, 1 << 32} {
		m := made("a", begin, 0, 0, 0, api.Stored)
		m.From += off
		l = append(l, m)
	}
	return l
}

func wantTake(t *testing.T, what string, b []byte, count int, want []api.Member, e api.Errno) {
	t.Helper()
	if l, ge := entry.Take(b, count); !slices.Equal(l, want) || ge != e {
		t.Errorf("%s: Take of %d: %v %d, not %v %d", what, count, l, ge, want, e)
	}
}

// wantNone holds members that are no directory.
func wantNone(t *testing.T, what string, l []api.Member) {
	t.Helper()
	if entry.All(l) {
		t.Errorf("%s: All: true", what)
	}
	if b, e := entry.Put(l); len(b) != 0 || e != api.ErrArg {
		t.Errorf("%s: Put: %x %d", what, b, e)
	}
}

func wantDirectory(t *testing.T, what string, l []api.Member) {
	t.Helper()
	if !entry.All(l) {
		t.Errorf("%s: All: false", what)
	}
	want := slow(l)
	if b, e := entry.Put(l); !bytes.Equal(b, want) || e != api.OK || entry.Len(l) != len(want) {
		t.Errorf("%s: Put: %x %d, not %x", what, b, e, want)
	}
	wantTake(t, what, want, len(l), l, api.OK)
}

// 19.1

func TestRight(t *testing.T) {
	for _, m := range right() {
		if !entry.Right(m) {
			t.Errorf("Right(%v): false", m)
		}
		wantDirectory(t, "one alone", []api.Member{m})
	}
	for _, m := range wrong() {
		if entry.Right(m) {
			t.Errorf("Right(%v): true", m)
		}
		wantNone(t, "one that may not be", []api.Member{m})
		wantNone(t, "one that may not be, behind one", []api.Member{right()[0], m})
	}
}

func TestPutByHand(t *testing.T) {
	l := []api.Member{made("a", 0x0403, 2, 0x10305, 0x0d0c0b0a, api.Packed), made("bc", 0x0605, 0x10000, 0, 0, api.Streamed)}
	want := "\x01\x01\x03\x04\x00\x00\x02\x00\x00\x00\x05\x03\x01\x00\x0a\x0b\x0c\x0da" + "\x02\x02\x05\x06\x00\x00\x00\x00\x01\x00\x00\x00\x00\x00\x00\x00\x00\x00bc"
	if b, e := entry.Put(l); string(b) != want || e != api.OK {
		t.Errorf("%x %d, not %x", b, e, want)
	}
	wantTake(t, "by hand", []byte(want), 2, l, api.OK)
}

func TestDirectories(t *testing.T) {
	a, b, ab := made("a", 5000, 1, 1, 9, 0), made("b", begin, 1, 1, 9, 0), made("a/b", begin, 1, 1, 9, 0)
	wantDirectory(t, "none", nil)
	wantDirectory(t, "no members", []api.Member{})
	wantDirectory(t, "two", []api.Member{a, b})
	wantDirectory(t, "three", []api.Member{a, ab, b})
	wantDirectory(t, "upper ones first", []api.Member{made("B", begin, 1, 1, 9, 0), a})
	wantDirectory(t, "as many as there may be", many(200))
	if n := entry.Len(many(200)); n != 16400 {
		t.Errorf("as many as there may be: %d bytes", n)
	}
	wantNone(t, "falling", []api.Member{b, a})
	wantNone(t, "falling at the end", []api.Member{a, b, ab})
	wantNone(t, "one twice", []api.Member{a, a})
	wantNone(t, "one name twice", []api.Member{a, made("a", 7000, 2, 2, 3, 0), b})
	wantNone(t, "one too many", many(201))
	wantNone(t, "far too many", many(400))
}

func TestLen(t *testing.T) {
	for _, x := range []struct {
		l    []api.Member
		want int
	}{
		{nil, 0},
		{[]api.Member{{}}, 18},
		{[]api.Member{{Name: "ab"}, {Name: "a"}}, 39},
		{[]api.Member{{Name: long(300), At: -1}}, 318},
		{slices.Repeat([]api.Member{{Name: "a"}}, 1000), 19000},
	} {
		if n := entry.Len(x.l); n != x.want {
			t.Errorf("Len of %d: %d, not %d", len(x.l), n, x.want)
		}
	}
}

// 19.2

func TestTakeLimit(t *testing.T) {
	b := slow(many(3))
	for _, count := range []int{-1, 201, 202, math.MinInt, math.MaxInt} {
		wantTake(t, "no count", b, count, nil, api.ErrLimit)
		wantTake(t, "no count", nil, count, nil, api.ErrLimit)
		wantTake(t, "no count", slow(many(201)), count, nil, api.ErrLimit)
	}
	wantTake(t, "the greatest count", slow(many(200)), 200, many(200), api.OK)
	wantTake(t, "one too many", slow(many(201)), 200, nil, api.ErrForm)
}

func TestTakeEnd(t *testing.T) {
	l := []api.Member{made("a", begin, 1, 1, 9, 0), made("bcd", 2000, 2, 2, 3, 1)}
	b := slow(l)
	wantTake(t, "fine", b, 2, l, api.OK)
	for n := range b {
		wantTake(t, "too short", b[:n], 2, nil, api.ErrEnd)
	}
	for _, count := range []int{3, 4, 200} {
		wantTake(t, "fewer than that", b, count, nil, api.ErrEnd)
	}
	wantTake(t, "none at all", nil, 1, nil, api.ErrEnd)
	wantTake(t, "none at all", nil, 200, nil, api.ErrEnd)
	greater := bytes.Clone(b)
	greater[1] = 255
	wantTake(t, "a name that is too long", greater, 2, nil, api.ErrEnd)
	spoilt := append(raw(9, 1, 0, 0, 0, 0, "/"), b[:5]...)
	wantTake(t, "one that may not be, and one that isn't all there", spoilt, 2, nil, api.ErrEnd)
}

func TestTakeForm(t *testing.T) {
	l := []api.Member{made("a", begin, 1, 1, 9, 0), made("bcd", 2000, 2, 2, 3, 1)}
	b := slow(l)
	wantTake(t, "a byte behind", append(bytes.Clone(b), 0), 2, nil, api.ErrForm)
	wantTake(t, "a member behind", b, 1, nil, api.ErrForm)
	wantTake(t, "two members behind", b, 0, nil, api.ErrForm)
	wantTake(t, "a byte behind nothing", []byte{0}, 0, nil, api.ErrForm)
	wantTake(t, "nothing", nil, 0, nil, api.OK)
	wantTake(t, "falling names", slow([]api.Member{l[1], l[0]}), 2, nil, api.ErrForm)
	wantTake(t, "a name twice", slow([]api.Member{l[0], l[0]}), 2, nil, api.ErrForm)
	for _, x := range []struct {
		what string
		b    []byte
	}{
		{"no method", raw(3, 1, begin, 0, 0, 0, "a")},
		{"the greatest method", raw(255, 1, begin, 0, 0, 0, "a")},
		{"no name", raw(0, 0, begin, 0, 0, 0, "")},
		{"a name that is none", raw(0, 2, begin, 0, 0, 0, "a/")},
		{"a name that is too long", raw(0, 65, begin, 0, 0, 0, long(65))},
		{"too near", raw(0, 1, begin-1, 0, 0, 0, "a")},
		{"at 0", raw(0, 1, 0, 0, 0, 0, "a")},
		{"too far", raw(0, 1, farthest+1, 0, 0, 0, "a")},
		{"the farthest", raw(0, 1, math.MaxUint32, 0, 0, 0, "a")},
		{"too great", raw(0, 1, begin, maxData+1, 0, 0, "a")},
		{"the greatest size", raw(0, 1, begin, math.MaxUint32, 0, 0, "a")},
		{"too great an area", raw(0, 1, begin, 0, maxArea+1, 0, "a")},
		{"the greatest area", raw(0, 1, begin, 0, math.MaxUint32, 0, "a")},
	} {
		wantTake(t, x.what, x.b, 1, nil, api.ErrForm)
		wantTake(t, x.what+", too short", x.b[:len(x.b)-1], 1, nil, api.ErrEnd)
	}
	wantTake(t, "what may just be", raw(2, 64, farthest, maxData, maxArea, math.MaxUint32, long(64)), 1, []api.Member{made(long(64), farthest, maxData, maxArea, math.MaxUint32, 2)}, api.OK)
}

func TestSame(t *testing.T) {
	m := made("a", begin, 1, 2, 3, 0)
	n := made("b", begin, 1, 2, 3, 0)
	for _, l := range [][]api.Member{nil, {m}, {m, n}, {n, m}, {m, m}, {{}}} {
		if !entry.Same(l, slices.Clone(l)) {
			t.Errorf("not the same: %v", l)
		}
	}
	if !entry.Same(nil, []api.Member{}) {
		t.Error("nil and empty")
	}
	for _, x := range [][2][]api.Member{{nil, {m}}, {{m}, nil}, {{m}, {n}}, {{m}, {m, m}}, {{m, n}, {m}}, {{m, n}, {n, m}}, {nil, {{}}}} {
		if entry.Same(x[0], x[1]) {
			t.Errorf("the same: %v %v", x[0], x[1])
		}
	}
	for k := range 7 {
		other := m
		switch k {
		case 0:
			other.Name = "A"
		case 1:
			other.At++
		case 2:
			other.From++
		case 3:
			other.Area++
		case 4:
			other.Size++
		case 5:
			other.Sum++
		case 6:
			other.Method++
		}
		if entry.Same([]api.Member{n, m}, []api.Member{n, other}) {
			t.Errorf("the same: %v %v", m, other)
		}
	}
}

func TestNames(t *testing.T) {
	l := []api.Member{{Name: "b"}, {Name: "a"}, {Name: ""}, {Name: "b"}}
	got := entry.Names(l)
	if !slices.Equal(got, []string{"b", "a", "", "b"}) {
		t.Errorf("%q", got)
	}
	if got := entry.Names(nil); len(got) != 0 {
		t.Errorf("of none: %q", got)
	}
	got[0] = "changed"
	if l[0].Name != "b" || entry.Names(l)[0] != "b" {
		t.Error("the answer isn't new memory")
	}
}

func TestNothingIsChanged(t *testing.T) {
	l := many(3)
	b, _ := entry.Put(l)
	kept := bytes.Clone(b)
	got, _ := entry.Take(b, 3)
	for i := range b {
		b[i] = 77
	}
	if !slices.Equal(got, many(3)) || !slices.Equal(l, many(3)) {
		t.Error("the answer isn't new memory")
	}
	got[0] = api.Member{}
	wantTake(t, "taken again", kept, 3, many(3), api.OK)
	if again, _ := entry.Put(l); !bytes.Equal(again, kept) {
		t.Error("the answer isn't new memory")
	}
}

// 19.3

func TestWhatIsPutIsTaken(t *testing.T) {
	throw := sample.Dice(1)
	for n := range 201 {
		var names []string
		for len(names) < n {
			name := make([]byte, 1+throw(64))
			for i := range name {
				name[i] = byte('!' + throw('~'-'!'+1))
				if name[i] == '/' || name[i] == '.' {
					name[i] = 'x'
				}
			}
			names = append(names, string(name))
		}
		slices.Sort(names)
		var l []api.Member
		for _, name := range slices.Compact(names) {
			m := made(name, begin+throw(farthest-begin+1), throw(maxData+1), throw(maxArea+1), uint32(throw(1<<32)), throw(3))
			if m.From != m.At+local.Len(name) {
				t.Fatalf("%v begins elsewhere", m)
			}
			l = append(l, m)
		}
		wantDirectory(t, "what is put", l)
	}
}
