package sample_test

import (
	"bytes"
	"slices"
	"strings"
	"testing"

	"bindle/api"
	"bindle/bits"
	"bindle/block"
	"bindle/crashfs"
	"bindle/record"
	"bindle/sample"
	"bindle/weigh"
)

func TestBitsAndText(t *testing.T) {
	for _, text := range []string{"", "1", "0", "1101", "00000001", "101010101", "1111111100000000"} {
		r := sample.Bits(text)
		if got := sample.Text(r); got != text || r.Left() != len(text) {
			t.Errorf("%s, and %d left, not %s", got, r.Left(), text)
		}
	}
}

func TestWritten(t *testing.T) {
	var w bits.Writer
	w.Put(5, 3)
	w.Put(1, 2)
	if got := sample.Written(&w); got != "10110" || got != sample.Number(5, 3)+sample.Number(1, 2) {
		t.Error(got)
	}
}

func TestTheSameInEachRun(t *testing.T) {
	one, other := sample.Dice(3), sample.Dice(3)
	for sides := 1; sides < 100; sides++ {
		n := one(sides)
		if n != other(sides) || n < 0 || n >= sides {
			t.Errorf("%d of %d sides", n, sides)
		}
	}
	if string(sample.Bytes(20, 5)) != string(sample.Bytes(20, 5)) || string(sample.Bytes(20, 5)) == string(sample.Bytes(20, 6)) {
		t.Error("the bytes of a seed")
	}
}

func TestBursts(t *testing.T) {
	b := sample.Bytes(9, 7)
	told := make([]int, 8*len(b))
	for at, x := range sample.Bursts(b, 1) {
		told[at]++
		for place := range 8 * len(b) {
			changed := (x[place/8]^b[place/8])>>(place%8)&1 == 1
			if changed && (place < at || place >= at+32) || !changed && place == at {
				t.Fatalf("at %d: %x of %x", at, x, b)
			}
		}
	}
	for at, n := range told {
		if n != 5 {
			t.Errorf("at %d: %d", at, n)
		}
	}
	for at := range sample.Bursts(b, 1) {
		if at == 3 {
			break
		}
	}
}

func TestLengths(t *testing.T) {
	longest, most := map[int]int{}, 0
	dice := sample.Dice(5)
	for range 500 {
		l := sample.Lengths(dice)
		if longest[weigh.Longest(l)]++; !weigh.Full(l) && weigh.Longest(l) != 1 {
			t.Fatalf("%d", l)
		}
		most = max(most, len(l))
	}
	if longest[0] > 0 || longest[1] == 0 || longest[5] == 0 || longest[15] == 0 || most < 200 {
		t.Errorf("%v, at most %d", longest, most)
	}
}

func TestTokens(t *testing.T) {
	if l := sample.Tokens("a\xff"); !slices.Equal(l, []api.Token{{Byte: 'a'}, {Byte: 255}}) || len(sample.Tokens("")) != 0 {
		t.Errorf("%v", l)
	}
}

func TestPayloads(t *testing.T) {
	if b := sample.Streamed("ab", "", strings.Repeat("x", 300)); !bytes.Equal(b, slices.Concat([]byte{2, 0, 'a', 'b', 0, 0, 44, 1}, bytes.Repeat([]byte("x"), 300), []byte{0, 0})) {
		t.Errorf("%x", b)
	}
	l, e := block.Take(bits.New(sample.Packed(sample.Tokens("aba"))), 3)
	if !slices.Equal(l, sample.Tokens("aba")) || e != api.OK {
		t.Errorf("%v %d", l, e)
	}
}

func TestRefusals(t *testing.T) {
	b := []byte("MARKabc")
	often := map[api.Errno]int{}
	for _, x := range sample.Refusals(b) {
		often[x.E]++
		if there := x.At >= 0 && x.At <= len(x.B); there != (x.E != api.ErrArg) {
			t.Errorf("%s: %q at %d: %d", x.What, x.B, x.At, x.E)
		} else if there && (len(x.B)-x.At >= 4 && string(x.B[x.At:x.At+4]) != "MARK") != (x.E == api.ErrForm) {
			t.Errorf("%s: %q at %d: %d", x.What, x.B, x.At, x.E)
		}
	}
	if often[api.ErrArg] != 16 || often[api.ErrForm] != 8+3 || often[api.ErrEnd] != 2*7+4+1 || len(often) != 3 || string(b) != "MARKabc" {
		t.Errorf("%v, %q", often, b)
	}
}

func TestFilesAndTheirBytes(t *testing.T) {
	if f := sample.File("a", "data"); f.Name != "a" || string(f.Data) != "data" || len(sample.File("", "").Data) != 0 {
		t.Errorf("%v", f)
	}
	if l := sample.Files(map[string]string{"b": "", "a/b": "2", "a": "1"}); len(l) != 3 || l[0].Name != "a" || l[1].Name != "a/b" || string(l[1].Data) != "2" || l[2].Name != "b" || len(sample.Files(nil)) != 0 {
		t.Errorf("%v", l)
	}
	if o := sample.Step(3, "a", "data"); o.Kind != 3 || o.Name != "a" || string(o.Data) != "data" || o.N != 0 || len(o.C.Keep) != 0 {
		t.Errorf("%v", o)
	}
	f := crashfs.New(9)
	id, _ := f.Create("a")
	f.Write(id, 0, sample.Bytes(600, 1))
	if b := sample.Content(f, "a"); len(b) != 1024 || !bytes.Equal(b[:600], sample.Bytes(600, 1)) || b[600] != 0 {
		t.Errorf("%d bytes", len(b))
	}
	if len(sample.Content(f, "b")) != 0 || len(sample.Content(nil, "a")) != 0 {
		t.Error("bytes of what isn't there")
	}
}

func TestLaid(t *testing.T) {
	x := sample.Several()
	at, kinds := api.Begin, map[int]int{}
	for _, r := range x.Rows {
		if got, e := record.Take(&x.C, x.B, at); got != r || e != api.OK {
			t.Errorf("at %d: %v %d, not %v", at, got, e, r)
		}
		at = r.Next
		kinds[r.Kind]++
		kinds[10+r.Member.Method]++
	}
	if at != len(x.B) || kinds[record.Live] != 6 || kinds[record.Gone] != 3 || kinds[10+api.Streamed] != 1 || kinds[10+api.Packed] != 1 {
		t.Errorf("%d of %d bytes, %v", at, len(x.B), kinds)
	}
	l := sample.Live(x.Rows)
	if len(l) != 3 || l[0] != x.Rows[6].Member || l[1] != x.Rows[7].Member || l[2] != x.Rows[2].Member || len(sample.Live(nil)) != 0 {
		t.Errorf("%v", l)
	}
	x = sample.Lay()
	x.Any(sample.Dice(1), 100)
	if len(x.Rows) != 100 || len(sample.Live(x.Rows)) < 3 {
		t.Errorf("%d records", len(x.Rows))
	}
}

func TestNoRecordIsLaid(t *testing.T) {
	defer func() {
		if recover() == nil {
			t.Error("a record of no name is laid")
		}
	}()
	sample.Lay().Gone("")
}
