package sample_test

import (
	"testing"

	"bindle/bits"
	"bindle/sample"
)

func TestBitsAndText(t *testing.T) {
	for _, text := range []string{"", "1", "0", "1101", "00000001", "101010101", "1111111100000000"} {
		r := sample.Bits(text)
		if got := sample.Text(r); got != text || r.Left() != len(text) {
			t.Errorf("%s, and %d left, not %s", got, r.Left(), text)
		}
	}
}

func TestWritten(t *testing.T) {
	var w bits.Writer
	w.Put(5, 3)
	w.Put(1, 2)
	if got := sample.Written(&w); got != "10110" || got != sample.Number(5, 3)+sample.Number(1, 2) {
		t.Error(got)
	}
}

func TestTheSameInEachRun(t *testing.T) {
	one, other := sample.Dice(3), sample.Dice(3)
	for sides := 1; sides < 100; sides++ {
		n := one(sides)
		if n != other(sides) || n < 0 || n >= sides {
			t.Errorf("%d of %d sides", n, sides)
		}
	}
	if string(sample.Bytes(20, 5)) != string(sample.Bytes(20, 5)) || string(sample.Bytes(20, 5)) == string(sample.Bytes(20, 6)) {
		t.Error("the bytes of a seed")
	}
}

func TestBursts(t *testing.T) {
	b := sample.Bytes(9, 7)
	told := make([]int, 8*len(b))
	for at, x := range sample.Bursts(b, 1) {
		told[at]++
		for place := range 8 * len(b) {
			changed := (x[place/8]^b[place/8])>>(place%8)&1 == 1
			if changed && (place < at || place >= at+32) || !changed && place == at {
				t.Fatalf("at %d: %x of %x", at, x, b)
			}
		}
	}
	for at, n := range told {
		if n != 5 {
			t.Errorf("at %d: %d", at, n)
		}
	}
	for at := range sample.Bursts(b, 1) {
		if at == 3 {
			break
		}
	}
}
