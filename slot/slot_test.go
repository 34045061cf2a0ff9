package slot_test

import (
	"bytes"
	"encoding/binary"
	"hash/crc32"
	"math"
	"testing"

	"bindle/api"
	"bindle/crc"
	"bindle/sample"
	"bindle/slot"
)

const (
	mostSeq = 1<<31 - 1
	most    = 1 << 21
	mostDir = 16420
)

// raw is a slot's bytes by the chapter's words, whether it may be or not.
func raw(seq, end, dir uint32, clean byte) []byte {
	b := []byte("SLOT")
	for _, n := range []uint32{seq, end, dir} {
		b = binary.LittleEndian.AppendUint32(b, n)
	}
	b = append(b, clean)
	b = binary.LittleEndian.AppendUint32(b, crc32.ChecksumIEEE(b))
	return append(b, make([]byte, 512-len(b))...)
}

func bytesOf(s api.Slot) []byte {
	clean := byte(0)
	if s.Clean {
		clean = 1
	}
	return raw(uint32(s.Seq), uint32(s.End), uint32(s.Dir), clean)
}

func right() []api.Slot {
	return []api.Slot{
		{Seq: 0, End: 1024},
		{Seq: mostSeq, End: 1024},
		{Seq: 7, End: most},
		{Seq: 0, End: 1024, Dir: 20, Clean: true},
		{Seq: mostSeq, End: 1024, Dir: mostDir, Clean: true},
		{Seq: 1, End: most - 20, Dir: 20, Clean: true},
		{Seq: 1, End: most - mostDir, Dir: mostDir, Clean: true},
		{Seq: 0x01020304, End: 0x0a0b0c, Dir: 0x0e0f, Clean: true},
	}
}

func wrong() []api.Slot {
	return []api.Slot{
		{},
		{Seq: -1, End: 1024},
		{Seq: mostSeq + 1, End: 1024},
		{Seq: 1 << 32, End: 1024},
		{Seq: math.MinInt, End: 1024},
		{Seq: math.MaxInt, End: 1024},
		{End: 1023},
		{End: -1},
		{End: most + 1},
		{End: 1024 + 1<<32},
		{End: math.MaxInt},
		{End: math.MinInt},
		{End: 1024, Dir: 20},
		{End: 1024, Dir: 1},
		{End: 1024, Dir: -1},
		{End: 1024, Dir: 1 << 32},
		{End: 1024, Clean: true},
		{End: 1024, Dir: 19, Clean: true},
		{End: 1024, Dir: -20, Clean: true},
		{End: 1024, Dir: mostDir + 1, Clean: true},
		{End: 1024, Dir: math.MaxInt, Clean: true},
		{End: 1024, Dir: math.MinInt, Clean: true},
		{End: most, Dir: 20, Clean: true},
		{End: most - 19, Dir: 20, Clean: true},
		{End: most - mostDir + 1, Dir: mostDir, Clean: true},
		{Seq: -1, End: 1024, Dir: 20, Clean: true},
		{End: 1023, Dir: 20, Clean: true},
		{End: most + 1, Dir: 20, Clean: true},
		{End: math.MaxInt, Dir: math.MaxInt, Clean: true},
	}
}

func wantTake(t *testing.T, what string, b []byte, want api.Slot, e api.Errno) {
	t.Helper()
	c := crc.Make()
	if s, ge := slot.Take(&c, b); s != want || ge != e {
		t.Errorf("%s: Take: %v %d, not %v %d", what, s, ge, want, e)
	}
}

func wantRefused(t *testing.T, what string, b []byte, e api.Errno) {
	t.Helper()
	wantTake(t, what, b, api.Slot{}, e)
}

// 21.1

func TestRight(t *testing.T) {
	for _, s := range right() {
		if !slot.Right(s) {
			t.Errorf("Right(%v): false", s)
		}
	}
	for _, s := range wrong() {
		if slot.Right(s) {
			t.Errorf("Right(%v): true", s)
		}
	}
}

func TestPut(t *testing.T) {
	c := crc.Make()
	for _, s := range right() {
		want := bytesOf(s)
		b, e := slot.Put(&c, s)
		if !bytes.Equal(b, want) || e != api.OK || len(b) != 512 {
			t.Errorf("Put(%v): %x %d", s, b, e)
		}
		clear(b)
		if again, _ := slot.Put(&c, s); !bytes.Equal(again, want) || c != crc.Make() {
			t.Error("the answer isn't new memory")
		}
		wantTake(t, "what was put", want, s, api.OK)
	}
	for _, s := range wrong() {
		if b, e := slot.Put(&c, s); len(b) != 0 || e != api.ErrArg {
			t.Errorf("Put(%v): %x %d", s, b, e)
		}
	}
	b, _ := slot.Put(&c, api.Slot{Seq: 0x01020304, End: 0x0a0b0c, Dir: 0x0e0f, Clean: true})
	if string(b[:17]) != "SLOT\x04\x03\x02\x01\x0c\x0b\x0a\x00\x0f\x0e\x00\x00\x01" {
		t.Errorf("by hand: %x", b)
	}
}

func TestTakeRefused(t *testing.T) {
	b := bytesOf(right()[3])
	long := append(bytes.Clone(b), make([]byte, 600)...)
	for n := range len(long) {
		if n != 512 {
			wantRefused(t, "not just 512", long[:n], api.ErrEnd)
			wantRefused(t, "not just 512, of others", make([]byte, n), api.ErrEnd)
		}
	}
	wantRefused(t, "nothing", nil, api.ErrEnd)
	wantRefused(t, "others", make([]byte, 512), api.ErrForm)
	for i := range b {
		spoilt := bytes.Clone(b)
		spoilt[i]++
		want := api.ErrForm
		if i >= 4 && i < 21 {
			want = api.ErrSum
		}
		wantRefused(t, "another byte", spoilt, want)
		spoilt[5]++
		if i >= 4 {
			wantRefused(t, "another byte, and another sum", spoilt, api.ErrSum)
		}
		spoilt[0]++
		wantRefused(t, "another mark, too", spoilt, api.ErrForm)
	}
	for clean := 2; clean < 256; clean++ {
		wantRefused(t, "neither Clean nor not", raw(1, 1024, 20, byte(clean)), api.ErrForm)
		wantRefused(t, "neither Clean nor not", raw(1, 1024, 0, byte(clean)), api.ErrForm)
	}
	for _, s := range wrong() {
		if s.Seq|s.End|s.Dir >= 0 && max(s.Seq, s.End, s.Dir) <= math.MaxUint32 {
			wantRefused(t, "what may not be", bytesOf(s), api.ErrForm)
		}
	}
	for _, n := range [][3]uint32{{math.MaxUint32, 1024, 0}, {0, math.MaxUint32, 0}, {0, 1024, math.MaxUint32}, {1 << 31, 1024, 0}} {
		wantRefused(t, "great ones", raw(n[0], n[1], n[2], 0), api.ErrForm)
		wantRefused(t, "great ones", raw(n[0], n[1], n[2], 1), api.ErrForm)
	}
}

func TestTakeKeepsBytes(t *testing.T) {
	c := crc.Make()
	b := bytesOf(right()[4])
	slot.Take(&c, b)
	slot.Choose(&c, b)
	if !bytes.Equal(b, bytesOf(right()[4])) || c != crc.Make() {
		t.Error("changed")
	}
}

// 21.2

func TestPlace(t *testing.T) {
	for seq := -4; seq < 5; seq++ {
		if want := seq & 1 * 512; slot.Place(seq) != want {
			t.Errorf("Place(%d): %d", seq, slot.Place(seq))
		}
	}
	if slot.Place(3) != 512 || slot.Place(math.MaxInt) != 512 || slot.Place(math.MinInt) != 0 || slot.Place(mostSeq) != 512 {
		t.Error("another Place")
	}
}

func wantChosen(t *testing.T, what string, b []byte, want api.Slot, e api.Errno) {
	t.Helper()
	c := crc.Make()
	if s, ge := slot.Choose(&c, b); s != want || ge != e {
		t.Errorf("%s: Choose: %v %d, not %v %d", what, s, ge, want, e)
	}
}

func TestChoose(t *testing.T) {
	spoilt := bytesOf(api.Slot{Seq: 9, End: 1024})
	spoilt[30] = 1
	for _, p := range right() {
		for _, q := range right() {
			b := append(bytesOf(p), bytesOf(q)...)
			want := p
			if q.Seq > p.Seq {
				want = q
			}
			wantChosen(t, "of two", b, want, api.OK)
			wantChosen(t, "of two, and more", append(b, spoilt...), want, api.OK)
		}
		b := bytesOf(p)
		wantChosen(t, "the first alone", b, p, api.OK)
		wantChosen(t, "the first, not all of the second", append(bytes.Clone(b), b[:511]...), p, api.OK)
		wantChosen(t, "the first, the second spoilt", append(bytes.Clone(b), spoilt...), p, api.OK)
		wantChosen(t, "the second, the first spoilt", append(bytes.Clone(spoilt), b...), p, api.OK)
		wantChosen(t, "the second, the first empty", append(make([]byte, 512), b...), p, api.OK)
		wantChosen(t, "not all of the first", b[:511], api.Slot{}, api.ErrForm)
		wantChosen(t, "elsewhere", append([]byte{0}, b...), api.Slot{}, api.ErrForm)
		wantChosen(t, "as a third one", append(make([]byte, 1024), b...), api.Slot{}, api.ErrForm)
	}
	wantChosen(t, "nothing", nil, api.Slot{}, api.ErrForm)
	wantChosen(t, "both spoilt", append(spoilt, spoilt...), api.Slot{}, api.ErrForm)
}

// Of one Seq the first one counts, and a Seq of 0 is one, too.
func TestChooseOfOneSeq(t *testing.T) {
	for _, seq := range []int{0, 1, 5, mostSeq} {
		p, q := api.Slot{Seq: seq, End: 1024}, api.Slot{Seq: seq, End: 2000, Dir: 20, Clean: true}
		wantChosen(t, "of one Seq", append(bytesOf(p), bytesOf(q)...), p, api.OK)
		wantChosen(t, "of one Seq", append(bytesOf(q), bytesOf(p)...), q, api.OK)
	}
}

// 21.3

func TestDirty(t *testing.T) {
	for _, s := range right() {
		want := api.Slot{Seq: s.Seq + 1, End: s.End}
		if s.Seq == mostSeq {
			want = api.Slot{}
		}
		if d, ok := slot.Dirty(s); d != want || ok != (s.Seq < mostSeq) {
			t.Errorf("Dirty(%v): %v %t", s, d, ok)
		}
	}
	for _, s := range wrong() {
		if d, ok := slot.Dirty(s); ok || d != (api.Slot{}) {
			t.Errorf("Dirty(%v): %v %t", s, d, ok)
		}
	}
}

func TestClean(t *testing.T) {
	numbers := []int{math.MinInt, -1, 0, 19, 20, 1023, 1024, mostDir, mostDir + 1, most - mostDir, most - mostDir + 1, most - 20, most - 19, most, most + 1, math.MaxInt}
	for _, s := range append(right(), wrong()...) {
		for _, end := range numbers {
			for _, dir := range numbers {
				want := api.Slot{Seq: s.Seq + 1, End: end, Dir: dir, Clean: true}
				may := slot.Right(s) && slot.Right(want)
				if !may {
					want = api.Slot{}
				}
				if g, ok := slot.Clean(s, end, dir); g != want || ok != may {
					t.Fatalf("Clean(%v, %d, %d): %v %t", s, end, dir, g, ok)
				}
			}
		}
	}
	if g, ok := slot.Clean(api.Slot{Seq: 4, End: 1024}, 1050, 39); !ok || g != (api.Slot{Seq: 5, End: 1050, Dir: 39, Clean: true}) {
		t.Errorf("by hand: %v %t", g, ok)
	}
}

// 21.4

func TestTheOneBehindIsChosen(t *testing.T) {
	dice := sample.Dice(9)
	s := api.Slot{Seq: 0, End: 1024, Dir: 20, Clean: true}
	b := make([]byte, 1024)
	copy(b, bytesOf(s))
	for range 300 {
		next, ok := slot.Clean(s, 1024+dice(5000), 20+dice(400))
		if s.Clean {
			next, ok = slot.Dirty(s)
		}
		if !ok {
			t.Fatal("no slot behind")
		}
		copy(b[slot.Place(next.Seq):], bytesOf(next))
		wantChosen(t, "the one behind", b, next, api.OK)
		spoilt := bytes.Clone(b)
		spoilt[slot.Place(next.Seq)+dice(512)] ^= byte(1 + dice(255))
		wantChosen(t, "the one behind is spoilt", spoilt, s, api.OK)
		s = next
	}
}

// Of a nil table nothing is promised but that nothing panics.
func TestNilTable(t *testing.T) {
	b, _ := slot.Put(nil, right()[0])
	slot.Take(nil, b)
	slot.Choose(nil, b)
}
