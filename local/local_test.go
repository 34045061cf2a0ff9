package local_test

import (
	"bytes"
	"encoding/binary"
	"hash/crc32"
	"math"
	"strings"
	"testing"

	"bindle/api"
	"bindle/crc"
	"bindle/local"
	"bindle/sample"
)

type head = local.Head

const maxData = 65536

// raw is a head's bytes by the chapter's words, whether it may be or not.
func raw(method, length byte, size, area, sum uint32, name string) []byte {
	b := append([]byte("LMBR"), method, length)
	for _, n := range []uint32{size, area, sum} {
		b = binary.LittleEndian.AppendUint32(b, n)
	}
	b = append(b, name...)
	return binary.LittleEndian.AppendUint32(b, crc32.ChecksumIEEE(b))
}

func long(n int) string {
	return strings.Repeat("n", n)
}

// right are heads that may be.
func right() []head {
	return []head{
		{api.Stored, "a", 0, 0, 0},
		{api.Stored, "a/b", 3, 3, 0xcbf43926},
		{api.Stored, long(64), maxData, maxData, math.MaxUint32},
		{api.Packed, "a", 1, 0, 1},
		{api.Packed, "a", maxData, 0, 0},
		{api.Packed, "a.b", maxData, maxData - 1, 0x80000000},
		{api.Packed, long(63), 300, 299, 7},
		{api.Streamed, "a", 0, 0, 0},
		{api.Streamed, long(64), 0, 0, 0},
	}
}

// wrong are heads that may not be.
func wrong() []head {
	return []head{
		{},
		{-1, "a", 0, 0, 0},
		{3, "a", 0, 0, 0},
		{256, "a", 0, 0, 0},
		{1 << 32, "a", 0, 0, 0},
		{math.MinInt, "a", 0, 0, 0},
		{math.MaxInt, "a", 0, 0, 0},
		{api.Stored, "", 3, 3, 0},
		{api.Stored, "a//b", 3, 3, 0},
		{api.Stored, "a b", 3, 3, 0},
		{api.Stored, long(65), 3, 3, 0},
		{api.Stored, long(300), 3, 3, 0},
		{api.Stored, "a", -1, -1, 0},
		{api.Stored, "a", maxData + 1, maxData + 1, 0},
		{api.Stored, "a", 1 << 32, 1 << 32, 0},
		{api.Stored, "a", 3, 2, 0},
		{api.Stored, "a", 3, 4, 0},
		{api.Stored, "a", 3, 3 + 1<<32, 0},
		{api.Packed, "", 3, 2, 0},
		{api.Packed, "a", 0, 0, 0},
		{api.Packed, "a", 0, -1, 0},
		{api.Packed, "a", 3, 3, 0},
		{api.Packed, "a", 3, 4, 0},
		{api.Packed, "a", 3, -1, 0},
		{api.Packed, "a", -1, -2, 0},
		{api.Packed, "a", maxData + 1, 3, 0},
		{api.Packed, "a", maxData, maxData, 0},
		{api.Packed, "a", math.MaxInt, math.MinInt, 0},
		{api.Streamed, "/", 0, 0, 0},
		{api.Streamed, "a", 1, 0, 0},
		{api.Streamed, "a", 0, 1, 0},
		{api.Streamed, "a", 0, 0, 1},
		{api.Streamed, "a", -1, 0, 0},
		{api.Streamed, "a", 3, 3, 0},
	}
}

func wantTake(t *testing.T, what string, b []byte, at int, want head, next int, e api.Errno) {
	t.Helper()
	c := crc.Make()
	if h, n, ge := local.Take(&c, b, at); h != want || n != next || ge != e {
		t.Errorf("%s: Take at %d: %v %d %d, not %v %d %d", what, at, h, n, ge, want, next, e)
	}
}

func wantRefused(t *testing.T, what string, b []byte, at int, e api.Errno) {
	t.Helper()
	wantTake(t, what, b, at, head{}, 0, e)
}

// 16.1

func TestRight(t *testing.T) {
	for _, h := range right() {
		if !local.Right(h) {
			t.Errorf("Right(%v): false", h)
		}
	}
	for _, h := range wrong() {
		if local.Right(h) {
			t.Errorf("Right(%v): true", h)
		}
	}
}

func TestPutByHand(t *testing.T) {
	c := crc.Make()
	for _, x := range []struct {
		h    head
		want []byte
	}{
		{head{api.Stored, "ab", 3, 3, 0x01020304}, []byte("LMBR\x00\x02\x03\x00\x00\x00\x03\x00\x00\x00\x04\x03\x02\x01ab")},
		{head{api.Packed, "a", 0x10000, 0x1234, 0xffffffff}, []byte("LMBR\x01\x01\x00\x00\x01\x00\x34\x12\x00\x00\xff\xff\xff\xffa")},
		{head{api.Streamed, "a/b", 0, 0, 0}, []byte("LMBR\x02\x03\x00\x00\x00\x00\x00\x00\x00\x00\x00\x00\x00\x00a/b")},
	} {
		b, e := local.Put(&c, x.h)
		want := binary.LittleEndian.AppendUint32(x.want, crc32.ChecksumIEEE(x.want))
		if e != api.OK || !bytes.Equal(b, want) {
			t.Errorf("%v: %x %d, not %x", x.h, b, e, want)
		}
	}
}

func TestPut(t *testing.T) {
	c := crc.Make()
	for _, h := range right() {
		want := raw(byte(h.Method), byte(len(h.Name)), uint32(h.Size), uint32(h.Area), h.Sum, h.Name)
		if b, e := local.Put(&c, h); !bytes.Equal(b, want) || e != api.OK {
			t.Errorf("Put(%v): %x %d, not %x", h, b, e, want)
		}
	}
	for _, h := range wrong() {
		if b, e := local.Put(&c, h); len(b) != 0 || e != api.ErrArg {
			t.Errorf("Put(%v): %x %d", h, b, e)
		}
	}
}

func TestPutIsNewMemory(t *testing.T) {
	c := crc.Make()
	h := right()[1]
	b, _ := local.Put(&c, h)
	want := bytes.Clone(b)
	for i := range b {
		b[i] = 77
	}
	if again, _ := local.Put(&c, h); !bytes.Equal(again, want) || c != crc.Make() {
		t.Error("the answer isn't new memory")
	}
}

func TestLen(t *testing.T) {
	c := crc.Make()
	if local.Len("ab") != 24 {
		t.Errorf("the example: %d", local.Len("ab"))
	}
	for _, s := range []string{"", "a", "a//b", long(64), long(65), long(1000)} {
		if local.Len(s) != 22+len(s) {
			t.Errorf("Len(%q): %d", s, local.Len(s))
		}
	}
	for _, h := range right() {
		if b, _ := local.Put(&c, h); len(b) != local.Len(h.Name) {
			t.Errorf("%v: %d bytes", h, len(b))
		}
	}
}

func TestIs(t *testing.T) {
	b := []byte("xLMBRLMBrTOMBLMB")
	for at := -5; at < 25; at++ {
		if local.Is(b, at) != (at == 1) {
			t.Errorf("Is at %d: %t", at, at != 1)
		}
	}
	for _, at := range []int{math.MinInt, math.MaxInt, math.MaxInt - 3} {
		if local.Is(b, at) || local.Is(nil, at) {
			t.Errorf("Is at %d", at)
		}
	}
	if local.Is(nil, 0) || local.Is([]byte("LMBR")[:3], 0) || !local.Is([]byte("LMBR"), 0) {
		t.Error("Is at the end of bytes")
	}
}

// 16.2

func TestTake(t *testing.T) {
	for _, h := range right() {
		b := raw(byte(h.Method), byte(len(h.Name)), uint32(h.Size), uint32(h.Area), h.Sum, h.Name)
		wantTake(t, "alone", b, 0, h, len(b), api.OK)
		wantTake(t, "among others", append(append([]byte("ahead"), b...), "behind"...), 5, h, 5+len(b), api.OK)
		for _, x := range sample.Refusals(b) {
			wantRefused(t, x.What, x.B, x.At, x.E)
		}
	}
}

func TestTakeSum(t *testing.T) {
	b := raw(1, 2, 9, 3, 9, "ab")
	for i := 4; i < len(b); i++ {
		if i == 5 {
			continue
		}
		spoilt := bytes.Clone(b)
		spoilt[i]++
		wantRefused(t, "another byte", spoilt, 0, api.ErrSum)
	}
	longer := bytes.Clone(b)
	longer[5] = 255
	wantRefused(t, "a longer name", longer, 0, api.ErrEnd)
	wantRefused(t, "a longer name, all there", append(longer, make([]byte, 253)...), 0, api.ErrSum)
	shorter := bytes.Clone(b)
	shorter[5] = 1
	wantRefused(t, "a shorter name", shorter, 0, api.ErrSum)
}

func TestTakeWhatMayNotBe(t *testing.T) {
	for _, x := range []struct {
		what string
		b    []byte
	}{
		{"no method", raw(3, 1, 0, 0, 0, "a")},
		{"the greatest method", raw(255, 1, 0, 0, 0, "a")},
		{"no name", raw(0, 0, 3, 3, 9, "")},
		{"a name that is none", raw(0, 4, 3, 3, 9, "a//b")},
		{"a name that isn't text", raw(0, 2, 3, 3, 9, "\xff\x00")},
		{"a name that is too long", raw(0, 65, 3, 3, 9, long(65))},
		{"the longest name", raw(0, 255, 3, 3, 9, long(255))},
		{"stored, too much", raw(0, 1, maxData+1, maxData+1, 9, "a")},
		{"stored, the greatest numbers", raw(0, 1, math.MaxUint32, math.MaxUint32, 9, "a")},
		{"stored, another area", raw(0, 1, 3, 4, 9, "a")},
		{"packed, as many", raw(1, 1, 3, 3, 9, "a")},
		{"packed, more", raw(1, 1, 3, 4, 9, "a")},
		{"packed, none", raw(1, 1, 0, 0, 9, "a")},
		{"packed, too much", raw(1, 1, maxData+1, 3, 9, "a")},
		{"streamed, a size", raw(2, 1, 1, 0, 0, "a")},
		{"streamed, an area", raw(2, 1, 0, 2, 0, "a")},
		{"streamed, a sum", raw(2, 1, 0, 0, 9, "a")},
	} {
		wantRefused(t, x.what, x.b, 0, api.ErrForm)
		wantRefused(t, x.what+", too short", x.b[:len(x.b)-1], 0, api.ErrEnd)
		spoilt := bytes.Clone(x.b)
		spoilt[len(spoilt)-1]++
		wantRefused(t, x.what+", another sum", spoilt, 0, api.ErrSum)
	}
}

func TestTakeLeavesBytes(t *testing.T) {
	b := raw(0, 1, 3, 3, 9, "a")
	kept := bytes.Clone(b)
	c := crc.Make()
	h, _, _ := local.Take(&c, b, 0)
	if !bytes.Equal(b, kept) {
		t.Errorf("changed: %x", b)
	}
	copy(b, make([]byte, len(b)))
	if h != (head{0, "a", 3, 3, 9}) {
		t.Errorf("the answer isn't new memory: %v", h)
	}
}

// 16.3

func TestWhatIsPutIsTaken(t *testing.T) {
	c := crc.Make()
	throw := sample.Dice(1)
	for range 2000 {
		h := head{Method: throw(3), Name: long(1 + throw(64))}
		if h.Method != api.Streamed {
			h.Size, h.Area, h.Sum = 1+throw(maxData), 0, uint32(throw(1<<32))
			h.Area = h.Size
		}
		if h.Method == api.Packed {
			h.Area = throw(h.Size)
		}
		ahead := sample.Bytes(throw(50), 3)
		b, e := local.Put(&c, h)
		if e != api.OK {
			t.Fatalf("Put(%v): %d", h, e)
		}
		wantTake(t, "what was put", append(ahead, b...), len(ahead), h, len(ahead)+len(b), api.OK)
	}
}

func TestBurstsAreFound(t *testing.T) {
	c := crc.Make()
	for _, h := range right() {
		b, _ := local.Put(&c, h)
		for at, spoilt := range sample.Bursts(b, 2) {
			want := api.ErrSum
			if at < 32 {
				want = api.ErrForm
			}
			if spoilt[5] == b[5] {
				wantRefused(t, "a burst", spoilt, 0, want)
			}
			spoilt = append(spoilt, make([]byte, 300)...)
			if h, next, e := local.Take(&c, spoilt, 0); e == api.OK && spoilt[5] == b[5] || e != api.OK && (h != (head{}) || next != 0) {
				t.Fatalf("a burst at %d: %v %d %d", at, h, next, e)
			}
		}
	}
}

// Of a nil table nothing is promised but that nothing panics.
func TestNilTable(t *testing.T) {
	b, _ := local.Put(nil, right()[1])
	local.Take(nil, b, 0)
}
