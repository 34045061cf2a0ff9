package desc_test

import (
	"bytes"
	"encoding/binary"
	"hash/crc32"
	"math"
	"slices"
	"testing"

	"bindle/api"
	"bindle/codec"
	"bindle/crc"
	"bindle/desc"
	"bindle/sample"
)

const (
	maxData = 65536
	maxArea = 262144
)

// raw is a descriptor's bytes by the chapter's words, whether it may be or not.
func raw(size, area, sum uint32) []byte {
	b := []byte("DESC")
	for _, n := range []uint32{size, area, sum} {
		b = binary.LittleEndian.AppendUint32(b, n)
	}
	return binary.LittleEndian.AppendUint32(b, crc32.ChecksumIEEE(b))
}

func right() []desc.Desc {
	return []desc.Desc{
		{0, 2, 0}, {0, 2, 0x41d912ff}, {1, 5, 9}, {maxData, maxArea, math.MaxUint32}, {maxData, 2, 1}, {0, maxArea, 1 << 31}, {0x1234, 0x20304, 0x01020304},
	}
}

func wrong() []desc.Desc {
	return []desc.Desc{
		{}, {0, 1, 0}, {0, 0, 9}, {0, -1, 0}, {-1, 2, 0}, {maxData + 1, 2, 0}, {0, maxArea + 1, 0}, {1 << 32, 2, 0}, {0, 2 + 1<<32, 0},
		{math.MinInt, 2, 0}, {math.MaxInt, 2, 0}, {0, math.MinInt, 0}, {0, math.MaxInt, 0}, {-1, -1, 0},
	}
}

func wantTake(t *testing.T, what string, b []byte, at int, want desc.Desc, e api.Errno) {
	t.Helper()
	c := crc.Make()
	if d, ge := desc.Take(&c, b, at); d != want || ge != e {
		t.Errorf("%s: Take at %d: %v %d, not %v %d", what, at, d, ge, want, e)
	}
}

func wantRefused(t *testing.T, what string, b []byte, at int, e api.Errno) {
	t.Helper()
	wantTake(t, what, b, at, desc.Desc{}, e)
}

func wantOf(t *testing.T, what string, area []byte, want desc.Desc, e api.Errno) {
	t.Helper()
	c := crc.Make()
	if d, ge := desc.Of(&c, area); d != want || ge != e {
		t.Errorf("%s: Of: %v %d, not %v %d", what, d, ge, want, e)
	}
	if e == api.OK && !desc.Fits(&c, want, area) {
		t.Errorf("%s: %v doesn't fit", what, want)
	}
}

func wantEnd(t *testing.T, what string, b []byte, at, want int, e api.Errno) {
	t.Helper()
	if next, ge := desc.End(b, at); next != want || ge != e {
		t.Errorf("%s: End at %d: %d %d, not %d %d", what, at, next, ge, want, e)
	}
}

// ofBytes is a payload of so many pieces of one byte.
func ofBytes(n int) []byte {
	return append(bytes.Repeat([]byte{1, 0, 'x'}, n), 0, 0)
}

// 18.1

func TestRight(t *testing.T) {
	if desc.Len != 20 {
		t.Error("another Len")
	}
	for _, d := range right() {
		if !desc.Right(d) {
			t.Errorf("Right(%v): false", d)
		}
	}
	for _, d := range wrong() {
		if desc.Right(d) {
			t.Errorf("Right(%v): true", d)
		}
	}
}

func TestPut(t *testing.T) {
	c := crc.Make()
	for _, d := range right() {
		want := raw(uint32(d.Size), uint32(d.Area), d.Sum)
		b, e := desc.Put(&c, d)
		if !bytes.Equal(b, want) || e != api.OK || len(b) != 20 {
			t.Errorf("Put(%v): %x %d, not %x", d, b, e, want)
		}
		copy(b, make([]byte, 20))
		if again, _ := desc.Put(&c, d); !bytes.Equal(again, want) || c != crc.Make() {
			t.Error("the answer isn't new memory")
		}
	}
	for _, d := range wrong() {
		if b, e := desc.Put(&c, d); len(b) != 0 || e != api.ErrArg {
			t.Errorf("Put(%v): %x %d", d, b, e)
		}
	}
	if b, _ := desc.Put(&c, desc.Desc{Size: 0x0201, Area: 0x030405, Sum: 0x0a090807}); string(b[:16]) != "DESC\x01\x02\x00\x00\x05\x04\x03\x00\x07\x08\x09\x0a" {
		t.Errorf("by hand: %x", b)
	}
}

func TestTake(t *testing.T) {
	for _, d := range right() {
		b := raw(uint32(d.Size), uint32(d.Area), d.Sum)
		wantTake(t, "alone", b, 0, d, api.OK)
		among := append(append([]byte("ahead"), b...), "behind"...)
		wantTake(t, "among others", among, 5, d, api.OK)
		for n := range b {
			wantRefused(t, "too short", b[:n], 0, api.ErrEnd)
			wantRefused(t, "too short", among[:5+n], 5, api.ErrEnd)
		}
	}
}

func TestTakeRefused(t *testing.T) {
	b := raw(3, 7, 9)
	for _, at := range []int{-1, -20, 21, 22, 1 << 40, math.MinInt, math.MaxInt, math.MaxInt - 19} {
		wantRefused(t, "no place", b, at, api.ErrArg)
		wantRefused(t, "no place", nil, at, api.ErrArg)
	}
	wantRefused(t, "of nothing", nil, 0, api.ErrEnd)
	// Unlike what other layers do, bytes that lack are told ahead of a mark that is another one.
	for n := range 20 {
		wantRefused(t, "of too few others", make([]byte, n), 0, api.ErrEnd)
	}
	wantRefused(t, "of others", make([]byte, 20), 0, api.ErrForm)
	for at := 1; at <= 20; at++ {
		wantRefused(t, "inside", b, at, api.ErrEnd)
		wantRefused(t, "inside, and more", append(bytes.Clone(b), make([]byte, 40)...), at, api.ErrForm)
	}
	for i := range b {
		spoilt := bytes.Clone(b)
		spoilt[i]++
		want := api.ErrSum
		if i < 4 {
			want = api.ErrForm
		}
		wantRefused(t, "another byte", spoilt, 0, want)
	}
	for _, n := range [][3]uint32{{maxData + 1, 2, 9}, {0, 1, 9}, {0, 0, 0}, {0, maxArea + 1, 9}, {math.MaxUint32, 2, 9}, {0, math.MaxUint32, 9}, {math.MaxUint32, math.MaxUint32, 9}} {
		b := raw(n[0], n[1], n[2])
		wantRefused(t, "what may not be", b, 0, api.ErrForm)
		wantRefused(t, "what may not be, too short", b[:19], 0, api.ErrEnd)
		b[19]++
		wantRefused(t, "what may not be, another sum", b, 0, api.ErrSum)
	}
}

// 18.2

func TestOf(t *testing.T) {
	wantOf(t, "the example", []byte{0, 0}, desc.Desc{Size: 0, Area: 2, Sum: crc32.ChecksumIEEE([]byte{0, 0})}, api.OK)
	for _, x := range []struct {
		what string
		area []byte
		size int
	}{
		{"a piece", []byte("\x03\x00abc\x00\x00"), 3},
		{"some pieces", []byte("\x03\x00abc\x01\x00d\x02\x00ef\x00\x00"), 6},
		{"as many bytes as there may be", slices.Concat(codec.Piece(make([]byte, maxData)), []byte{0, 0}), maxData},
		{"as many pieces as there may be", ofBytes(maxData), maxData},
	} {
		wantOf(t, x.what, x.area, desc.Desc{Size: x.size, Area: len(x.area), Sum: crc32.ChecksumIEEE(x.area)}, api.OK)
	}
	for _, x := range []struct {
		what string
		area []byte
		want api.Errno
	}{
		{"nothing", nil, api.ErrEnd},
		{"half an end", []byte{0}, api.ErrEnd},
		{"no end", []byte("\x03\x00abc"), api.ErrEnd},
		{"half a piece", []byte("\x03\x00ab"), api.ErrEnd},
		{"something behind the end", []byte("\x00\x00\x00"), api.ErrForm},
		{"one byte too many", slices.Concat(codec.Piece(make([]byte, maxData+1)), []byte{0, 0}), api.ErrSize},
		{"one piece too many", ofBytes(maxData + 1), api.ErrSize},
		{"far too many", ofBytes(100000), api.ErrSize},
		{"far too many, without an end", ofBytes(100000)[:300001], api.ErrEnd},
		{"far too many, and one behind the end", append(ofBytes(100000), 0), api.ErrForm},
	} {
		wantOf(t, x.what, x.area, desc.Desc{}, x.want)
		c := crc.Make()
		if desc.Fits(&c, desc.Desc{}, x.area) || desc.Fits(&c, desc.Desc{Area: len(x.area), Sum: crc32.ChecksumIEEE(x.area)}, x.area) {
			t.Errorf("%s: something fits", x.what)
		}
	}
}

func TestFits(t *testing.T) {
	c := crc.Make()
	area := []byte("\x03\x00abc\x01\x00d\x00\x00")
	d := desc.Desc{Size: 4, Area: 10, Sum: crc32.ChecksumIEEE(area)}
	if !desc.Fits(&c, d, area) {
		t.Error("its own")
	}
	for _, other := range []desc.Desc{{3, 10, d.Sum}, {5, 10, d.Sum}, {4, 9, d.Sum}, {4, 11, d.Sum}, {4, 10, d.Sum + 1}, {4, 10, crc32.ChecksumIEEE([]byte("abcd"))}, {}} {
		if desc.Fits(&c, other, area) {
			t.Errorf("%v", other)
		}
	}
	otherwise := []byte("\x01\x00a\x03\x00bcd\x00\x00")
	if desc.Fits(&c, d, otherwise) || desc.Fits(&c, d, area[:9]) || desc.Fits(&c, d, append(bytes.Clone(area), 0)) {
		t.Error("of other pieces")
	}
}

// 18.3

func TestEnd(t *testing.T) {
	area := []byte("\x03\x00abc\x01\x00d\x00\x00")
	wantEnd(t, "of pieces", area, 0, 10, api.OK)
	wantEnd(t, "of no pieces", []byte{0, 0}, 0, 2, api.OK)
	wantEnd(t, "from the second piece on", area, 5, 10, api.OK)
	wantEnd(t, "from the end on", area, 8, 10, api.OK)
	wantEnd(t, "at the last byte", area, 9, 0, api.ErrEnd)
	wantEnd(t, "behind all", area, 10, 0, api.ErrEnd)
	wantEnd(t, "of nothing", nil, 0, 0, api.ErrEnd)
	among := append(append([]byte("ahead"), area...), "\x00\x00behind"...)
	wantEnd(t, "among others", among, 5, 15, api.OK)
	for n := range area {
		wantEnd(t, "too short", area[:n], 0, 0, api.ErrEnd)
		wantEnd(t, "too short", among[:5+n], 5, 0, api.ErrEnd)
	}
	wantEnd(t, "a piece that goes just to the end", []byte("\x02\x00ab"), 0, 0, api.ErrEnd)
	wantEnd(t, "a great piece", []byte{255, 255, 0, 0}, 0, 0, api.ErrEnd)
	great := append([]byte{255, 255}, make([]byte, 65537)...)
	wantEnd(t, "a great piece, all there", great, 0, 65539, api.OK)
	wantEnd(t, "a great piece, without an end", great[:65538], 0, 0, api.ErrEnd)
	wantEnd(t, "more pieces than data may have", ofBytes(100000), 0, 300002, api.OK)
	for _, at := range []int{-1, -2, 11, 12, math.MinInt, math.MaxInt} {
		wantEnd(t, "no place", area, at, 0, api.ErrArg)
		wantEnd(t, "no place", nil, at, 0, api.ErrArg)
	}
}

// 18.4

func TestWhatFollows(t *testing.T) {
	c := crc.Make()
	throw := sample.Dice(1)
	for round := range 500 {
		data := sample.Bytes(throw(1+20*round), uint32(round))
		var rows [][]byte
		for at := 0; at < len(data); {
			n := min(throw(1+throw(2000)), len(data)-at)
			rows = append(rows, data[at:at+n])
			at += n
		}
		area, e := codec.Stream(rows)
		if e != api.OK {
			t.Fatal(e)
		}
		d := desc.Desc{Size: len(data), Area: len(area), Sum: crc32.ChecksumIEEE(area)}
		wantOf(t, "of any pieces", area, d, api.OK)
		ahead := sample.Bytes(throw(30), 5)
		b, e := desc.Put(&c, d)
		if e != api.OK {
			t.Fatal(e)
		}
		all := slices.Concat(ahead, area, b, []byte("behind"))
		wantEnd(t, "of any pieces", all, len(ahead), len(ahead)+len(area), api.OK)
		wantTake(t, "what was put", all, len(ahead)+len(area), d, api.OK)
	}
}

func TestNothingIsChanged(t *testing.T) {
	c := crc.Make()
	area := []byte("\x03\x00abc\x01\x00d\x00\x00")
	d, _ := desc.Of(&c, area)
	b, _ := desc.Put(&c, d)
	all := slices.Concat(area, b)
	kept := bytes.Clone(all)
	desc.Of(&c, all[:10])
	desc.Fits(&c, d, all[:10])
	desc.End(all, 0)
	desc.Take(&c, all, 10)
	if !bytes.Equal(all, kept) || c != crc.Make() {
		t.Errorf("changed: %x", all)
	}
}

// Of a nil table nothing is promised but that nothing panics.
func TestNilTable(t *testing.T) {
	d, _ := desc.Of(nil, []byte{0, 0})
	b, _ := desc.Put(nil, d)
	desc.Take(nil, b, 0)
	desc.Fits(nil, d, []byte{0, 0})
}
