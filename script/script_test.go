package script_test

import (
	"bytes"
	"encoding/binary"
	"iter"
	"math"
	"slices"
	"strings"
	"testing"

	"bindle/api"
	"bindle/sample"
	"bindle/script"
)

const (
	maxOps  = 200
	maxData = 65537
)

// raw is a step's bytes by the chapter's words, whether it may be written or not.
func raw(o api.Op) []byte {
	b := []byte{byte(o.Kind), byte(len(o.Name))}
	b = append(b, o.Name...)
	b = binary.LittleEndian.AppendUint16(b, uint16(o.N+1))
	b = binary.LittleEndian.AppendUint32(b, uint32(len(o.Data)))
	b = append(b, o.Data...)
	b = append(b, byte(len(o.C.Keep)))
	flags := make([]byte, (len(o.C.Keep)+7)/8)
	for i, k := range o.C.Keep {
		if k {
			flags[i/8] |= 1 << (i % 8)
		}
	}
	b = append(b, flags...)
	return append(b, byte(o.C.Names), o.C.Fill)
}

// rawScript is a script's bytes, which are said to have so many steps.
func rawScript(many int, l ...api.Op) []byte {
	b := []byte{byte(many), byte(many >> 8)}
	for _, o := range l {
		b = append(b, raw(o)...)
	}
	return b
}

func flags(n int) []bool {
	l := make([]bool, n)
	for i := range l {
		l[i] = i%3 > 0
	}
	return l
}

func long(n int) string {
	return strings.Repeat("n", n)
}

// right are steps that may be written.
func right() []api.Op {
	return []api.Op{
		{},
		{Kind: 3, Name: "a", Data: []byte("abc"), N: 2},
		{Kind: 255, N: -1},
		{Kind: 1, N: 65534},
		{Name: long(255)},
		{Name: "a b\x00\xff/é"},
		{Data: sample.Bytes(65536, 1)},
		{Data: sample.Bytes(maxData, 2)},
		{Kind: 18, C: api.Crash{Keep: flags(1)}},
		{Kind: 18, C: api.Crash{Keep: []bool{true, false, true, true, false, false, true, true}, Names: 1, Fill: 2}},
		{Kind: 18, C: api.Crash{Keep: flags(7), Names: 255}},
		{Kind: 18, C: api.Crash{Keep: flags(9), Fill: 255}},
		{Kind: 18, C: api.Crash{Keep: flags(255), Names: 16, Fill: 7}},
		{Kind: 7, Name: "all", Data: []byte{0}, N: 300, C: api.Crash{Keep: flags(20), Names: 3, Fill: 4}},
	}
}

// wrong are steps that may not be written.
func wrong() []api.Op {
	return []api.Op{
		{Kind: -1},
		{Kind: 256},
		{Kind: math.MinInt},
		{Kind: math.MaxInt},
		{Name: long(256)},
		{Name: long(512)},
		{Data: make([]byte, maxData+1)},
		{N: -2},
		{N: 65535},
		{N: math.MinInt},
		{N: math.MaxInt},
		{C: api.Crash{Keep: flags(256)}},
		{C: api.Crash{Keep: flags(512)}},
		{C: api.Crash{Names: -1}},
		{C: api.Crash{Names: 256}},
		{C: api.Crash{Names: math.MinInt}},
	}
}

func same(a, b []api.Op) bool {
	return slices.EqualFunc(a, b, script.Same)
}

func wantTake(t *testing.T, what string, b []byte, want []api.Op, e api.Errno) {
	t.Helper()
	kept := bytes.Clone(b)
	if l, ge := script.Take(b); !same(l, want) || ge != e {
		t.Errorf("%s: %d steps, %d, not %d steps, %d", what, len(l), ge, len(want), e)
	}
	if l := told(script.Each(b)); !same(l, want) {
		t.Errorf("%s: Each: %d steps, not %d", what, len(l), len(want))
	}
	if !bytes.Equal(b, kept) {
		t.Errorf("%s: changed", what)
	}
}

func wantRefused(t *testing.T, what string, b []byte, e api.Errno) {
	t.Helper()
	wantTake(t, what, b, nil, e)
}

// told is the steps of an iterator, if they are numbered from 0 on.
func told(all iter.Seq2[int, api.Op]) []api.Op {
	var l []api.Op
	for i, o := range all {
		if i != len(l) {
			return []api.Op{{Kind: -1}}
		}
		l = append(l, o)
	}
	return l
}

// 31.1

func TestRight(t *testing.T) {
	for _, o := range right() {
		if !script.Right(o) || script.Len(o) != len(raw(o)) {
			t.Errorf("kind %d, N %d: %t, Len %d, not %d", o.Kind, o.N, script.Right(o), script.Len(o), len(raw(o)))
		}
	}
	for _, o := range wrong() {
		if script.Right(o) || script.Len(o) != 0 {
			t.Errorf("kind %d, N %d: %t, Len %d", o.Kind, o.N, script.Right(o), script.Len(o))
		}
	}
	if script.Len(api.Op{}) != 11 {
		t.Errorf("a zero step has %d bytes", script.Len(api.Op{}))
	}
}

func TestSame(t *testing.T) {
	l := right()
	l = append(l, wrong()...)
	l = append(l,
		api.Op{Name: "a"}, api.Op{Name: "b"}, api.Op{Data: []byte("a")}, api.Op{Data: []byte("b")}, api.Op{Data: []byte("ba")},
		api.Op{N: 1}, api.Op{C: api.Crash{Keep: []bool{true}}}, api.Op{C: api.Crash{Keep: []bool{false, false}}},
		api.Op{C: api.Crash{Names: 1}}, api.Op{C: api.Crash{Fill: 1}},
	)
	for i, a := range l {
		for j, b := range l {
			b.Data = bytes.Clone(b.Data)
			b.C.Keep = slices.Clone(b.C.Keep)
			if script.Same(a, b) != (i == j) {
				t.Errorf("Same of %d and %d: %t", i, j, i != j)
			}
		}
	}
	if !script.Same(api.Op{Data: []byte{}, C: api.Crash{Keep: []bool{}}}, api.Op{}) {
		t.Error("nil and empty lists aren't one")
	}
}

// 31.2

func TestPutByHand(t *testing.T) {
	for _, x := range []struct {
		l    []api.Op
		want []byte
	}{
		{nil, []byte{0, 0}},
		{[]api.Op{{}}, []byte{1, 0, 0, 0, 1, 0, 0, 0, 0, 0, 0, 0, 0}},
		{[]api.Op{{Kind: 3, Name: "ab", Data: []byte("xyz"), N: 256}, {Kind: 18, N: -1, C: api.Crash{Keep: []bool{false, true, true, false, false, false, false, false, true}, Names: 5, Fill: 6}}},
			[]byte{2, 0, 3, 2, 'a', 'b', 1, 1, 3, 0, 0, 0, 'x', 'y', 'z', 0, 0, 0, 18, 0, 0, 0, 0, 0, 0, 0, 9, 6, 1, 5, 6}},
	} {
		if b, e := script.Put(x.l); !bytes.Equal(b, x.want) || e != api.OK {
			t.Errorf("Put of %d steps: %v %d, not %v", len(x.l), b, e, x.want)
		}
		wantTake(t, "by hand", x.want, x.l, api.OK)
	}
}

func TestPut(t *testing.T) {
	for _, l := range [][]api.Op{right(), right()[3:5], make([]api.Op, maxOps), slices.Repeat(right()[13:], maxOps)} {
		kept := slices.Clone(l)
		b, e := script.Put(l)
		if !bytes.Equal(b, rawScript(len(l), l...)) || e != api.OK || !same(l, kept) {
			t.Errorf("Put of %d steps: %d bytes, %d", len(l), len(b), e)
		}
		wantTake(t, "what was put", b, l, api.OK)
	}
}

func TestPutRefused(t *testing.T) {
	for _, o := range wrong() {
		for _, l := range [][]api.Op{{o}, {right()[1], o}, {o, right()[1]}} {
			if b, e := script.Put(l); len(b) != 0 || e != api.ErrArg {
				t.Errorf("kind %d, N %d: %d bytes, %d", o.Kind, o.N, len(b), e)
			}
		}
		if b, e := script.Put(slices.Repeat([]api.Op{o}, maxOps+1)); len(b) != 0 || e != api.ErrLimit {
			t.Errorf("too many wrong ones: %d bytes, %d", len(b), e)
		}
	}
	if b, e := script.Put(make([]api.Op, maxOps+1)); len(b) != 0 || e != api.ErrLimit {
		t.Errorf("too many: %d bytes, %d", len(b), e)
	}
}

func TestTakeRefused(t *testing.T) {
	one := right()[13]
	great := api.Op{Data: make([]byte, maxData+1)}
	early := rawScript(2, one, one)
	early[2+len(raw(one))-3] |= 1 << 4
	behind := rawScript(1, one)
	behind[len(behind)-3] |= 1 << 4
	for _, x := range []struct {
		what string
		b    []byte
		e    api.Errno
	}{
		{"nothing", nil, api.ErrEnd},
		{"a byte", []byte{0}, api.ErrEnd},
		{"a great byte", []byte{201}, api.ErrEnd},
		{"201 steps", rawScript(201), api.ErrLimit},
		{"201 steps that are there", rawScript(201, make([]api.Op, 201)...), api.ErrLimit},
		{"65,535 steps", rawScript(65535), api.ErrLimit},
		{"256 steps", rawScript(256), api.ErrLimit},
		{"200 steps", rawScript(200), api.ErrEnd},
		{"something behind none", append(rawScript(0), 0), api.ErrForm},
		{"something behind", append(rawScript(1, one), 0), api.ErrForm},
		{"a step more", rawScript(1, one, one), api.ErrForm},
		{"a step less", rawScript(3, one, one), api.ErrEnd},
		{"too much data", rawScript(1, great), api.ErrForm},
		{"too much data, and something behind", append(rawScript(1, great), 0), api.ErrForm},
		{"too much data, ahead of a step that isn't there", rawScript(2, great), api.ErrForm},
		{"a bit behind Keep", behind, api.ErrForm},
		{"a bit behind Keep, then a step that isn't all there", early[:len(early)-1], api.ErrForm},
		{"much more data than there is", []byte{1, 0, 0, 0, 0, 0, 255, 255, 255, 255, 0, 0, 0, 0}, api.ErrEnd},
		{"much more data, by the sign", []byte{1, 0, 0, 0, 0, 0, 0, 0, 0, 128, 0, 0, 0, 0}, api.ErrEnd},
	} {
		wantRefused(t, x.what, x.b, x.e)
	}
	// All of a step's bytes are looked for ahead of what it may not be.
	for n := 1; n <= 3; n++ {
		b := rawScript(1, great)
		wantRefused(t, "too much data, and too few bytes behind", b[:len(b)-n], api.ErrEnd)
	}
	wantRefused(t, "a bit behind Keep, and a byte less", behind[:len(behind)-1], api.ErrEnd)
}

func TestTakeCutAnywhere(t *testing.T) {
	l := []api.Op{right()[1], right()[13], right()[0], right()[12]}
	b := rawScript(len(l), l...)
	wantTake(t, "whole", b, l, api.OK)
	for n := range b {
		wantRefused(t, "cut", b[:n], api.ErrEnd)
	}
}

// Each bit behind Keep must be 0, and none of Keep's own.
func TestBitsBehindKeep(t *testing.T) {
	for n := range 20 {
		o := api.Op{C: api.Crash{Keep: make([]bool, n)}}
		b := rawScript(1, o)
		for bit := range (n + 7) / 8 * 8 {
			other := bytes.Clone(b)
			other[2+9+bit/8] |= 1 << (bit % 8)
			if bit >= n {
				wantRefused(t, "a bit behind", other, api.ErrForm)
				continue
			}
			o := api.Op{C: api.Crash{Keep: make([]bool, n)}}
			o.C.Keep[bit] = true
			wantTake(t, "a bit of Keep", other, []api.Op{o}, api.OK)
		}
	}
}

func TestAnswersAreNewMemory(t *testing.T) {
	l := []api.Op{{Name: "a", Data: []byte("data"), C: api.Crash{Keep: []bool{true, true}}}}
	b, _ := script.Put(l)
	kept := bytes.Clone(b)
	clear(l[0].Data)
	clear(l[0].C.Keep)
	if !bytes.Equal(b, kept) {
		t.Error("Put keeps what is handed in")
	}
	first, _ := script.Take(b)
	clear(b)
	second, _ := script.Take(kept)
	if !same(first, second) {
		t.Error("Take keeps what is handed in")
	}
	clear(first[0].Data)
	clear(first[0].C.Keep)
	if string(second[0].Data) != "data" || !second[0].C.Keep[0] {
		t.Error("two answers share memory")
	}
}

func TestEachIsLeft(t *testing.T) {
	b := rawScript(14, right()...)
	for n := range right() {
		seen := 0
		for i := range script.Each(b) {
			seen++
			if i == n {
				break
			}
		}
		if seen != n+1 {
			t.Errorf("left behind %d: %d told", n, seen)
		}
	}
}

// An iterator tells the same each time, whatever is done with the bytes, and with what it told, since.
func TestEachKeepsNothingThatIsHandedIn(t *testing.T) {
	l := right()
	b := rawScript(len(l), l...)
	all := script.Each(b)
	clear(b)
	for range 2 {
		steps := told(all)
		if !same(steps, l) {
			t.Fatal("other steps")
		}
		for _, o := range steps {
			clear(o.Data)
			clear(o.C.Keep)
		}
	}
}

// 31.3

func TestWhatIsTakenIsPut(t *testing.T) {
	dice := sample.Dice(31)
	steps := right()
	taken := 0
	for seed := range uint32(20000) {
		var l []api.Op
		for range dice(4) {
			o := steps[dice(5)+9*dice(2)]
			o.Data = sample.Bytes(dice(9), seed)
			l = append(l, o)
		}
		b := rawScript(len(l), l...)
		for range dice(3) {
			b[dice(len(b))] ^= 1 << dice(8)
		}
		if dice(4) == 0 {
			b = sample.Bytes(dice(60), seed)
			b = append([]byte{byte(dice(4)), 0}, b...)
		}
		got, e := script.Take(b)
		if e != api.OK {
			continue
		}
		taken++
		for _, o := range got {
			if !script.Right(o) {
				t.Fatal("a step that may not be written is taken")
			}
		}
		again, e := script.Put(got)
		if !bytes.Equal(again, b) || e != api.OK {
			t.Fatalf("%v is put as %v, %d", b, again, e)
		}
	}
	if taken < 5000 {
		t.Errorf("but %d are taken", taken)
	}
}
