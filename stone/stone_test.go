package stone_test

import (
	"bytes"
	"encoding/binary"
	"hash/crc32"
	"math"
	"strings"
	"testing"

	"bindle/api"
	"bindle/crc"
	"bindle/local"
	"bindle/sample"
	"bindle/stone"
)

// raw is a tombstone's bytes by the chapter's words, whether it is one's or not.
func raw(length byte, name string) []byte {
	b := append(append([]byte("TOMB"), length), name...)
	return binary.LittleEndian.AppendUint32(b, crc32.ChecksumIEEE(b))
}

func long(n int) string {
	return strings.Repeat("n", n)
}

func names() []string {
	return []string{"a", "~", "a/b", "...", "TOMB", "LMBR", "a.b/c-d", long(63), long(64)}
}

func wrong() []string {
	return []string{"", "/", ".", "..", "a/", "/a", "a//b", "a/../b", "a b", "\x00", "\xff\xff", "a\x7f", long(65), long(255)}
}

func wantTake(t *testing.T, what string, b []byte, at int, want string, next int, e api.Errno) {
	t.Helper()
	c := crc.Make()
	if name, n, ge := stone.Take(&c, b, at); name != want || n != next || ge != e {
		t.Errorf("%s: Take at %d: %q %d %d, not %q %d %d", what, at, name, n, ge, want, next, e)
	}
}

func wantRefused(t *testing.T, what string, b []byte, at int, e api.Errno) {
	t.Helper()
	wantTake(t, what, b, at, "", 0, e)
}

// 17.1

func TestPut(t *testing.T) {
	c := crc.Make()
	for _, name := range names() {
		want := raw(byte(len(name)), name)
		b, e := stone.Put(&c, name)
		if !bytes.Equal(b, want) || e != api.OK || len(b) != stone.Len(name) {
			t.Errorf("Put(%q): %x %d, not %x", name, b, e, want)
		}
		for i := range b {
			b[i] = 77
		}
		if again, _ := stone.Put(&c, name); !bytes.Equal(again, want) || c != crc.Make() {
			t.Error("the answer isn't new memory")
		}
	}
	for _, name := range append(wrong(), long(300)) {
		if b, e := stone.Put(&c, name); len(b) != 0 || e != api.ErrName {
			t.Errorf("Put(%q): %x %d", name, b, e)
		}
	}
}

func TestPutByHand(t *testing.T) {
	c := crc.Make()
	b, e := stone.Put(&c, "ab")
	if e != api.OK || len(b) != 11 || string(b[:7]) != "TOMB\x02ab" || binary.LittleEndian.Uint32(b[7:]) != crc32.ChecksumIEEE([]byte("TOMB\x02ab")) {
		t.Errorf("%x %d", b, e)
	}
}

func TestLen(t *testing.T) {
	if stone.Len("a") != 10 {
		t.Errorf("the example: %d", stone.Len("a"))
	}
	for _, s := range []string{"", "a//b", long(64), long(65), long(1000)} {
		if stone.Len(s) != 9+len(s) {
			t.Errorf("Len(%q): %d", s, stone.Len(s))
		}
	}
}

func TestIs(t *testing.T) {
	b := []byte("xTOMBTOMbLMBRTOM")
	for at := -5; at < 25; at++ {
		if stone.Is(b, at) != (at == 1) {
			t.Errorf("Is at %d: %t", at, at != 1)
		}
	}
	for _, at := range []int{math.MinInt, math.MaxInt, math.MaxInt - 3} {
		if stone.Is(b, at) || stone.Is(nil, at) {
			t.Errorf("Is at %d", at)
		}
	}
	if stone.Is(nil, 0) || stone.Is([]byte("TOMB")[:3], 0) || !stone.Is([]byte("TOMB"), 0) {
		t.Error("Is at the end of bytes")
	}
}

// 17.2

func TestTake(t *testing.T) {
	for _, name := range names() {
		b := raw(byte(len(name)), name)
		wantTake(t, "alone", b, 0, name, len(b), api.OK)
		wantTake(t, "among others", append(append([]byte("ahead"), b...), "behind"...), 5, name, 5+len(b), api.OK)
		if name == "TOMB" {
			continue
		}
		for _, x := range sample.Refusals(b) {
			wantRefused(t, x.What, x.B, x.At, x.E)
		}
	}
}

func TestTakeSum(t *testing.T) {
	b := raw(3, "a/b")
	for i := 5; i < len(b); i++ {
		spoilt := bytes.Clone(b)
		spoilt[i]++
		wantRefused(t, "another byte", spoilt, 0, api.ErrSum)
	}
	longer := bytes.Clone(b)
	longer[4] = 255
	wantRefused(t, "a longer name", longer, 0, api.ErrEnd)
	wantRefused(t, "a longer name, all there", append(longer, make([]byte, 252)...), 0, api.ErrSum)
	shorter := bytes.Clone(b)
	shorter[4] = 1
	wantRefused(t, "a shorter name", shorter, 0, api.ErrSum)
}

func TestTakeName(t *testing.T) {
	for _, name := range wrong() {
		b := raw(byte(len(name)), name)
		wantRefused(t, "no name", b, 0, api.ErrName)
		wantRefused(t, "no name, too short", b[:len(b)-1], 0, api.ErrEnd)
		b[len(b)-1]++
		wantRefused(t, "no name, another sum", b, 0, api.ErrSum)
	}
}

func TestTakeLeavesBytes(t *testing.T) {
	b := raw(3, "a/b")
	kept := bytes.Clone(b)
	c := crc.Make()
	name, _, _ := stone.Take(&c, b, 0)
	if !bytes.Equal(b, kept) {
		t.Errorf("changed: %x", b)
	}
	copy(b, make([]byte, len(b)))
	if name != "a/b" {
		t.Errorf("the answer isn't new memory: %q", name)
	}
}

// 17.3

func TestWhatIsPutIsTaken(t *testing.T) {
	c := crc.Make()
	throw := sample.Dice(1)
	for n := 1; n <= 64; n++ {
		ahead := sample.Bytes(throw(50), uint32(n))
		b, e := stone.Put(&c, long(n))
		if e != api.OK {
			t.Fatalf("a name of %d: %d", n, e)
		}
		wantTake(t, "what was put", append(ahead, b...), len(ahead), long(n), len(ahead)+len(b), api.OK)
	}
}

// A head and a tombstone never stand at one place.
func TestOneOfBoth(t *testing.T) {
	c := crc.Make()
	var all []byte
	for _, name := range names() {
		tomb, _ := stone.Put(&c, name)
		head, _ := local.Put(&c, local.Head{Method: api.Stored, Name: name, Size: 1, Area: 1})
		all = append(append(all, tomb...), head...)
	}
	for at := range all {
		_, _, one := stone.Take(&c, all, at)
		_, _, other := local.Take(&c, all, at)
		if one == api.OK && other == api.OK || stone.Is(all, at) && local.Is(all, at) || one == api.OK && !stone.Is(all, at) {
			t.Errorf("both at %d", at)
		}
	}
}

// Of a nil table nothing is promised but that nothing panics.
func TestNilTable(t *testing.T) {
	b, _ := stone.Put(nil, "a")
	stone.Take(nil, b, 0)
}
