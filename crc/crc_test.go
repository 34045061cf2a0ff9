package crc_test

import (
	"bytes"
	"hash/crc32"
	"math"
	"math/bits"
	"testing"

	"bindle/crc"
	"bindle/sample"
)

const example = "123456789"

// byTurns goes on by the chapter's words, without a table.
func byTurns(n uint32, b []byte) uint32 {
	for _, x := range b {
		low := n%256 ^ uint32(x)
		for range 8 {
			odd := low%2 == 1
			low /= 2
			if odd {
				low ^= 0xedb88320
			}
		}
		n = n/256 ^ low
	}
	return n
}

// bitAt tells the bit of a place, counted by the chapter's words.
func bitAt(b []byte, place int) bool {
	return b[place/8]>>(place%8)&1 == 1
}

func wantSum(t *testing.T, what string, got, want uint32) {
	t.Helper()
	if got != want {
		t.Errorf("%s: %08x, not %08x", what, got, want)
	}
}

func wantBytes(t *testing.T, what string, got, want []byte) {
	t.Helper()
	if !bytes.Equal(got, want) {
		t.Errorf("%s: %x, not %x", what, got, want)
	}
}

// 1.1

func TestMake(t *testing.T) {
	c := crc.Make()
	for i, n := range c {
		wantSum(t, "the table by turns", n, byTurns(0, []byte{byte(i)}))
		wantSum(t, "the table of another hand", n, crc32.IEEETable[i])
	}
	for i, n := range map[int]uint32{0: 0, 1: 0x77073096, 2: 0xee0e612c, 128: 0xedb88320, 255: 0x2d02ef8d} {
		wantSum(t, "a known number", c[i], n)
	}
}

func TestMakeKeepsNothing(t *testing.T) {
	c := crc.Make()
	c[1]++
	if d := crc.Make(); d[1] != 0x77073096 {
		t.Errorf("a table that was changed is told anew: %08x", d[1])
	}
}

func TestGo(t *testing.T) {
	c := crc.Make()
	for _, n := range []uint32{0, 1, 255, 256, 0x80000000, 0x12345678, 0xffffffff} {
		wantSum(t, "of nil", c.Go(n, nil), n)
		wantSum(t, "of no bytes", c.Go(n, []byte{}), n)
		for x := range 256 {
			b := []byte{byte(x)}
			wantSum(t, "of a byte", c.Go(n, b), byTurns(n, b))
		}
		b := sample.Bytes(300, n)
		wantSum(t, "of many bytes", c.Go(n, b), byTurns(n, b))
		for at := range b {
			wantSum(t, "in two steps", c.Go(c.Go(n, b[:at]), b[at:]), c.Go(n, b))
		}
	}
}

func TestSum(t *testing.T) {
	c := crc.Make()
	wantSum(t, "the example", c.Sum([]byte(example)), 0xcbf43926)
	wantSum(t, "of nil", c.Sum(nil), 0)
	wantSum(t, "of no bytes", c.Sum([]byte{}), 0)
	wantSum(t, "of a zero byte", c.Sum([]byte{0}), 0xd202ef8d)
	wantSum(t, "of four full bytes", c.Sum([]byte{255, 255, 255, 255}), 0xffffffff)
	wantSum(t, "of a", c.Sum([]byte("a")), 0xe8b7be43)
	for _, n := range []int{1, 2, 3, 4, 5, 31, 32, 33, 511, 512, 513, 65536, 1 << 20} {
		b := sample.Bytes(n, uint32(n))
		wantSum(t, "by the words", c.Sum(b), ^byTurns(0xffffffff, b))
		wantSum(t, "of another hand", c.Sum(b), crc32.ChecksumIEEE(b))
		wantSum(t, "from Go", c.Sum(b), ^c.Go(0xffffffff, b))
	}
}

func TestJoin(t *testing.T) {
	c := crc.Make()
	wantSum(t, "of nothing", c.Join(nil, nil), 0)
	whole := []byte(example)
	for at := range len(whole) + 1 {
		wantSum(t, "the example in two", c.Join(whole[:at], whole[at:]), 0xcbf43926)
	}
	wantSum(t, "nil first", c.Join(nil, whole), 0xcbf43926)
	wantSum(t, "nil behind", c.Join(whole, nil), 0xcbf43926)
	wantSum(t, "in its order", c.Join([]byte("56789"), []byte("1234")), crc32.ChecksumIEEE([]byte("567891234")))
	a, b := sample.Bytes(1000, 1), sample.Bytes(777, 2)
	wantSum(t, "of many bytes", c.Join(a, b), crc32.ChecksumIEEE(append(bytes.Clone(a), b...)))
}

// What lies in memory behind a part isn't the part's: to join must not write there.
func TestSumsChangeNothing(t *testing.T) {
	c := crc.Make()
	before := c
	all := sample.Bytes(64, 3)
	kept := bytes.Clone(all)
	c.Go(7, all[:16])
	c.Sum(all[:16])
	c.Join(all[:16], all[32:])
	wantBytes(t, "what was handed in", all, kept)
	if c != before {
		t.Error("the table is changed")
	}
}

func TestNilTable(t *testing.T) {
	var c *crc.Table
	for _, b := range [][]byte{nil, {}, {0}, []byte(example)} {
		for _, n := range []uint32{0, 1, 0xffffffff} {
			wantSum(t, "Go", c.Go(n, b), 0)
		}
		wantSum(t, "Sum", c.Sum(b), 0)
		wantSum(t, "Join, first", c.Join(b, nil), 0)
		wantSum(t, "Join, behind", c.Join(nil, b), 0)
		wantSum(t, "Join, both", c.Join(b, b), 0)
	}
}

// 1.2

func TestFlipExamples(t *testing.T) {
	for _, x := range []struct {
		b    []byte
		at   int
		bits uint32
		want []byte
	}{
		{[]byte{0, 0}, 0, 1, []byte{1, 0}},
		{[]byte{0, 0}, 0, 2, []byte{2, 0}},
		{[]byte{0, 0}, 7, 3, []byte{128, 1}},
		{[]byte{0, 0}, 8, 1, []byte{0, 1}},
		{[]byte{0, 0}, 15, 1, []byte{0, 128}},
		{[]byte{0xff, 0x0f}, 4, 0xff, []byte{0x0f, 0x00}},
		{[]byte{0, 0, 0, 0}, 0, 0x12345678, []byte{0x78, 0x56, 0x34, 0x12}},
		{[]byte{0, 0, 0, 0, 0}, 3, 0xffffffff, []byte{0xf8, 0xff, 0xff, 0xff, 0x07}},
		{[]byte{9, 9}, 5, 0, []byte{9, 9}},
	} {
		wantBytes(t, "flipped", crc.Flip(x.b, x.at, x.bits), x.want)
	}
}

func TestFlipEachPlace(t *testing.T) {
	b := sample.Bytes(9, 4)
	for at := range 8*len(b) + 40 {
		for _, pattern := range []uint32{1, 2, 1 << 31, 1<<31 | 1, 0x80000001, 0xa5a5a5a5, 0xffffffff, 0x00ffff00} {
			got := crc.Flip(b, at, pattern)
			if len(got) != len(b) {
				t.Fatalf("at %d: %d bytes, not %d", at, len(got), len(b))
			}
			for place := range 8 * len(b) {
				k := place - at
				asked := k >= 0 && k < 32 && pattern>>k&1 == 1
				if (bitAt(got, place) != bitAt(b, place)) != asked {
					t.Fatalf("at %d, bits %08x: the bit of place %d is wrong", at, pattern, place)
				}
			}
			wantBytes(t, "flipped back", crc.Flip(got, at, pattern), b)
		}
	}
}

func TestFlipBehindTheEnd(t *testing.T) {
	b := []byte{0, 0}
	wantBytes(t, "half of them", crc.Flip(b, 12, 0xffffffff), []byte{0, 0xf0})
	wantBytes(t, "all but one", crc.Flip(b, 15, 0xffffffff), []byte{0, 0x80})
	wantBytes(t, "only behind", crc.Flip(b, 15, 0xfffffffe), b)
	for _, at := range []int{16, 17, 23, 24, 1000, 1 << 30} {
		wantBytes(t, "behind", crc.Flip(b, at, 0xffffffff), b)
	}
	if got := crc.Flip(nil, 0, 0xffffffff); len(got) != 0 {
		t.Errorf("of nil: %x", got)
	}
	if got := crc.Flip([]byte{}, 0, 1); len(got) != 0 {
		t.Errorf("of no bytes: %x", got)
	}
}

// Below 0 not even the bits are changed whose places would be there.
func TestFlipWrongPlaces(t *testing.T) {
	b := sample.Bytes(6, 5)
	for _, at := range []int{-1, -2, -7, -8, -31, -32, -1 << 40, math.MinInt, math.MinInt + 1} {
		wantBytes(t, "below 0", crc.Flip(b, at, 0xffffffff), b)
	}
	for _, at := range []int{1<<40 - 1, 1 << 40, 1<<40 + 1, 1 << 62, math.MaxInt - 31, math.MaxInt - 1, math.MaxInt} {
		wantBytes(t, "far behind", crc.Flip(b, at, 0xffffffff), b)
	}
}

func TestFlipNewMemory(t *testing.T) {
	for _, at := range []int{-1, 0, 9, 100, 1<<40 + 1} {
		b := make([]byte, 3, 16)
		kept := bytes.Clone(b[:cap(b)])
		got := crc.Flip(b, at, 0x00000f0f)
		wantBytes(t, "what was handed in", b[:cap(b)], kept)
		got = got[:cap(got)]
		for i := range got {
			got[i] = 77
		}
		wantBytes(t, "what was handed in, behind a change of the answer", b[:cap(b)], kept)
	}
}

// 1.3

func TestSumGoesOn(t *testing.T) {
	c := crc.Make()
	b := sample.Bytes(200, 6)
	for at := range len(b) + 1 {
		first, behind := b[:at], b[at:]
		wantSum(t, "on from the sum", ^c.Go(^c.Sum(first), behind), c.Sum(b))
		wantSum(t, "joined", c.Join(first, behind), c.Sum(b))
	}
}

func wantUnlike(t *testing.T, c *crc.Table, b []byte, at int, pattern uint32) {
	t.Helper()
	got := crc.Flip(b, at, pattern)
	if bytes.Equal(got, b) {
		t.Fatalf("%d bytes at %d, bits %08x: nothing is changed", len(b), at, pattern)
	}
	if c.Sum(got) == c.Sum(b) {
		t.Fatalf("%d bytes at %d, bits %08x: the same sum", len(b), at, pattern)
	}
}

// Each pattern's lowest bit is set, so that it lies in b at each place of b.
func TestBurstsAreFound(t *testing.T) {
	c := crc.Make()
	for _, n := range []int{1, 2, 4, 5, 16, 61} {
		for _, b := range [][]byte{make([]byte, n), bytes.Repeat([]byte{255}, n), sample.Bytes(n, 7)} {
			seed := uint32(8)
			for at := range 8 * n {
				for k := range 32 {
					seed = seed*1664525 + 1013904223
					wantUnlike(t, &c, b, at, 1|1<<k)
					wantUnlike(t, &c, b, at, 1<<k|(1<<k-1))
					wantUnlike(t, &c, b, at, 1|bits.Reverse32(seed))
				}
				// what the sum is made by is where one that is made otherwise would be blind
				wantUnlike(t, &c, b, at, 1|0xedb88320)
				wantUnlike(t, &c, b, at, 1|0x04c11db7)
			}
		}
	}
}

// All patterns of 16 bits at one place, and their like at the farther end of 32 bits.
func TestBurstsOfAllPatterns(t *testing.T) {
	c := crc.Make()
	b := sample.Bytes(40, 9)
	for p := uint32(1); p < 1<<16; p++ {
		wantUnlike(t, &c, b, 83, p)
		wantUnlike(t, &c, b, 83, p<<16)
		wantUnlike(t, &c, b, 83, p<<16|1)
	}
}

func TestBurstsInLongBytes(t *testing.T) {
	c := crc.Make()
	b := sample.Bytes(65536, 10)
	for _, at := range []int{0, 1, 31, 4095, 4096, 262143, 8*65536 - 32, 8*65536 - 1} {
		for _, pattern := range []uint32{1, 3, 0x80000001, 0xffffffff} {
			wantUnlike(t, &c, b, at, pattern)
		}
	}
}
