package foot_test

import (
	"bytes"
	"encoding/binary"
	"hash/crc32"
	"math"
	"slices"
	"strings"
	"testing"

	"bindle/api"
	"bindle/crc"
	"bindle/entry"
	"bindle/foot"
	"bindle/local"
	"bindle/sample"
)

const mostLength = 16400

// raw is a foot's bytes by the chapter's words, whether it may be or not.
func raw(count, length, sum uint32) []byte {
	b := []byte("FOOT")
	for _, n := range []uint32{count, length, sum} {
		b = binary.LittleEndian.AppendUint32(b, n)
	}
	return binary.LittleEndian.AppendUint32(b, crc32.ChecksumIEEE(b))
}

// whole is bytes, and behind them a foot of so many members that fits to these.
func whole(b []byte, count int) []byte {
	return slices.Concat(b, raw(uint32(count), uint32(len(b)), crc32.ChecksumIEEE(b)))
}

// many is n members, whose names rise, each as long as it may be.
func many(n int) []api.Member {
	var l []api.Member
	for i := range n {
		name := string(rune('a'+i/26)) + string(rune('a'+i%26)) + strings.Repeat("n", 62)
		at := 1024 + 1000*i
		l = append(l, api.Member{Name: name, At: at, From: at + local.Len(name), Area: i, Size: i, Sum: uint32(i) * 77777777, Method: i % 3})
	}
	return l
}

// rows is the bytes of members, without a foot.
func rows(t *testing.T, l []api.Member) []byte {
	t.Helper()
	b, e := entry.Put(l)
	if e != api.OK {
		t.Fatalf("%d members: %d", len(l), e)
	}
	return b
}

func wantTake(t *testing.T, what string, b []byte, want foot.Foot, e api.Errno) {
	t.Helper()
	c := crc.Make()
	if f, ge := foot.Take(&c, b); f != want || ge != e {
		t.Errorf("%s: Take: %v %d, not %v %d", what, f, ge, want, e)
	}
}

func wantRead(t *testing.T, what string, b []byte, want []api.Member, e api.Errno) {
	t.Helper()
	c := crc.Make()
	if l, ge := foot.Read(&c, b); !slices.Equal(l, want) || ge != e {
		t.Errorf("%s: Read: %v %d, not %v %d", what, l, ge, want, e)
	}
}

// wantRefused holds bytes of which there is no foot, and so no directory.
func wantRefused(t *testing.T, what string, b []byte, e api.Errno) {
	t.Helper()
	wantTake(t, what, b, foot.Foot{}, e)
	wantRead(t, what, b, nil, e)
}

func right() []foot.Foot {
	return []foot.Foot{{0, 0, 0}, {0, 0, math.MaxUint32}, {200, mostLength, 9}, {200, 0, 1}, {0, mostLength, 1 << 31}, {0x12, 0x3456, 0x01020304}}
}

func wrong() []foot.Foot {
	return []foot.Foot{
		{-1, 0, 0}, {201, 0, 0}, {0, -1, 0}, {0, mostLength + 1, 0}, {1 << 32, 0, 0}, {0, 1 << 32, 0},
		{math.MinInt, 0, 0}, {math.MaxInt, 0, 0}, {0, math.MinInt, 0}, {0, math.MaxInt, 0}, {201, mostLength + 1, 9},
	}
}

// 20.1

func TestRight(t *testing.T) {
	if foot.Len != 20 {
		t.Error("another Len")
	}
	for _, f := range right() {
		if !foot.Right(f) {
			t.Errorf("Right(%v): false", f)
		}
	}
	for _, f := range wrong() {
		if foot.Right(f) {
			t.Errorf("Right(%v): true", f)
		}
	}
}

func TestPut(t *testing.T) {
	c := crc.Make()
	for _, f := range right() {
		want := raw(uint32(f.Count), uint32(f.Length), f.Sum)
		b, e := foot.Put(&c, f)
		if !bytes.Equal(b, want) || e != api.OK || len(b) != 20 {
			t.Errorf("Put(%v): %x %d, not %x", f, b, e, want)
		}
		copy(b, make([]byte, 20))
		if again, _ := foot.Put(&c, f); !bytes.Equal(again, want) || c != crc.Make() {
			t.Error("the answer isn't new memory")
		}
		wantTake(t, "what was put", want, f, api.OK)
		wantTake(t, "what was put behind others", append([]byte("ahead, and more than that"), want...), f, api.OK)
	}
	for _, f := range wrong() {
		if b, e := foot.Put(&c, f); len(b) != 0 || e != api.ErrArg {
			t.Errorf("Put(%v): %x %d", f, b, e)
		}
	}
	if b, _ := foot.Put(&c, foot.Foot{Count: 5, Length: 0x0302, Sum: 0x0a090807}); string(b[:16]) != "FOOT\x05\x00\x00\x00\x02\x03\x00\x00\x07\x08\x09\x0a" {
		t.Errorf("by hand: %x", b)
	}
}

func TestTakeRefused(t *testing.T) {
	b := raw(3, 77, 9)
	for n := range b {
		wantRefused(t, "too short", b[:n], api.ErrEnd)
		wantRefused(t, "too short, of others", make([]byte, n), api.ErrEnd)
	}
	wantRefused(t, "nothing", nil, api.ErrEnd)
	wantRefused(t, "others", make([]byte, 20), api.ErrForm)
	wantRefused(t, "others, many", make([]byte, 5000), api.ErrForm)
	wantRefused(t, "not at the end", append(bytes.Clone(b), 0), api.ErrForm)
	for n := 1; n < 20; n++ {
		wantRefused(t, "all but the last ones", append(make([]byte, n), b[:20-n]...), api.ErrForm)
	}
	for i := range b {
		spoilt := bytes.Clone(b)
		spoilt[i]++
		want := api.ErrSum
		if i < 4 {
			want = api.ErrForm
		}
		wantRefused(t, "another byte", spoilt, want)
		wantRefused(t, "another byte, behind others", append([]byte("ahead"), spoilt...), want)
	}
	for _, n := range [][2]uint32{{201, 0}, {0, mostLength + 1}, {math.MaxUint32, 0}, {0, math.MaxUint32}, {math.MaxUint32, math.MaxUint32}} {
		b := raw(n[0], n[1], 9)
		wantRefused(t, "what may not be", b, api.ErrForm)
		wantRefused(t, "what may not be, too short", b[:19], api.ErrEnd)
		b[19]++
		wantRefused(t, "what may not be, another sum", b, api.ErrSum)
	}
}

// 20.2

func TestWrite(t *testing.T) {
	c := crc.Make()
	for _, n := range []int{0, 1, 2, 3, 199, 200} {
		l := many(n)
		want := whole(rows(t, l), n)
		b, e := foot.Write(&c, l)
		if !bytes.Equal(b, want) || e != api.OK || len(b) != 82*n+20 {
			t.Errorf("Write of %d: %d bytes, %d, not %d", n, len(b), e, len(want))
		}
		wantTake(t, "what was written", b, foot.Foot{Count: n, Length: 82 * n, Sum: crc32.ChecksumIEEE(want[:82*n])}, api.OK)
		wantRead(t, "what was written", b, l, api.OK)
	}
	l := many(3)
	noName := many(1)
	noName[0].Name = ""
	for _, l := range [][]api.Member{many(201), {l[1], l[0]}, {l[0], l[0]}, noName, {{}}, {l[0], {}}} {
		if b, e := foot.Write(&c, l); len(b) != 0 || e != api.ErrArg {
			t.Errorf("Write of no directory: %d bytes, %d", len(b), e)
		}
	}
}

func TestReadSize(t *testing.T) {
	b := rows(t, many(2))
	sum := crc32.ChecksumIEEE(b)
	for _, length := range []int{0, 1, len(b) - 1, len(b) + 1, mostLength} {
		wantRead(t, "another length", append(bytes.Clone(b), raw(2, uint32(length), sum)...), nil, api.ErrSize)
		wantRead(t, "another length, and sum", append(bytes.Clone(b), raw(2, uint32(length), sum+1)...), nil, api.ErrSize)
	}
	right := whole(b, 2)
	wantRead(t, "fine", right, many(2), api.OK)
	wantRead(t, "a byte ahead", append([]byte{0}, right...), nil, api.ErrSize)
	wantRead(t, "a byte fewer", right[1:], nil, api.ErrSize)
	wantRead(t, "the foot alone", right[len(b):], nil, api.ErrSize)
}

func TestReadSum(t *testing.T) {
	b := rows(t, many(2))
	wantRead(t, "another sum", append(bytes.Clone(b), raw(2, uint32(len(b)), crc32.ChecksumIEEE(b)+1)...), nil, api.ErrSum)
	wantRead(t, "another sum, and count", append(bytes.Clone(b), raw(3, uint32(len(b)), crc32.ChecksumIEEE(b)+1)...), nil, api.ErrSum)
	for i := range b {
		spoilt := whole(b, 2)
		spoilt[i]++
		wantRead(t, "another byte", spoilt, nil, api.ErrSum)
	}
	wantRead(t, "of nothing, another sum", raw(0, 0, 1), nil, api.ErrSum)
}

func TestReadRows(t *testing.T) {
	l := many(3)
	b := rows(t, l)
	for count := range 201 {
		want := api.ErrForm
		if count > 3 {
			want = api.ErrEnd
		}
		if count != 3 {
			wantRead(t, "another count", whole(b, count), nil, want)
		}
	}
	falling := slices.Concat(rows(t, l[1:2]), rows(t, l[:1]))
	wantRead(t, "falling", whole(falling, 2), nil, api.ErrForm)
	wantRead(t, "rows that are none", whole(make([]byte, 18), 1), nil, api.ErrForm)
	wantRead(t, "half a row", whole(b[:30], 1), nil, api.ErrEnd)
	wantRead(t, "a byte behind the rows", whole(append(bytes.Clone(b), 0), 3), nil, api.ErrForm)
}

func TestNothingIsChanged(t *testing.T) {
	c := crc.Make()
	l := many(3)
	b, _ := foot.Write(&c, l)
	kept := bytes.Clone(b)
	got, _ := foot.Read(&c, b)
	foot.Take(&c, b)
	if !bytes.Equal(b, kept) || !slices.Equal(l, many(3)) || c != crc.Make() {
		t.Error("changed")
	}
	for i := range b {
		b[i] = 77
	}
	if !slices.Equal(got, many(3)) {
		t.Error("the answer isn't new memory")
	}
	got[0] = api.Member{}
	if again, _ := foot.Write(&c, l); !bytes.Equal(again, kept) {
		t.Error("the answer isn't new memory")
	}
}

// 20.3

func TestExample(t *testing.T) {
	c := crc.Make()
	b, e := foot.Write(&c, nil)
	if e != api.OK || !bytes.Equal(b, raw(0, 0, 0)) {
		t.Errorf("of no members: %x %d", b, e)
	}
	wantRead(t, "of no members", b, nil, api.OK)
}

func TestBurstsAreFound(t *testing.T) {
	c := crc.Make()
	for n := range 4 {
		b, _ := foot.Write(&c, many(n))
		for at, spoilt := range sample.Bursts(b, 3) {
			if l, e := foot.Read(&c, spoilt); e == api.OK || len(l) != 0 {
				t.Fatalf("of %d members, a burst at %d: %v %d", n, at, l, e)
			}
		}
	}
	b, _ := foot.Write(&c, many(200))
	for seed := range uint32(2000) {
		at := int(seed * 2654435761 % uint32(8*len(b)))
		if l, e := foot.Read(&c, crc.Flip(b, at, 1|seed<<1)); e == api.OK || len(l) != 0 {
			t.Fatalf("of 200 members, a burst at %d: %d", at, e)
		}
	}
}

// Of a nil table nothing is promised but that nothing panics.
func TestNilTable(t *testing.T) {
	b, _ := foot.Write(nil, many(2))
	foot.Read(nil, b)
	foot.Take(nil, b)
}
