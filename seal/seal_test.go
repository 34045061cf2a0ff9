package seal_test

import (
	"bytes"
	"hash/crc32"
	"math"
	"testing"

	"bindle/api"
	"bindle/crc"
	"bindle/sample"
	"bindle/seal"
)

func TestIs(t *testing.T) {
	b := []byte("aMARKbMARKMAR")
	for at := -20; at < 40; at++ {
		if want := at == 1 || at == 6; seal.Is("MARK", b, at) != want {
			t.Errorf("at %d: %t", at, !want)
		}
	}
	for _, at := range []int{math.MinInt, math.MinInt + 1, math.MaxInt - 3, math.MaxInt} {
		if seal.Is("MARK", b, at) || seal.Is("MARK", nil, at) {
			t.Errorf("at %d", at)
		}
	}
	if seal.Is("MARK", []byte("MARK")[:3], 0) || seal.Is("MARK", nil, 0) || !seal.Is("MARK", []byte("MARK"), 0) {
		t.Error("at the end of bytes")
	}
}

func TestOpen(t *testing.T) {
	for _, x := range []struct {
		text string
		at   int
		want api.Errno
		fine bool
		left int
	}{
		{"MARKab", 0, api.OK, true, 2},
		{"abMARK", 2, api.OK, true, 0},
		{"abMARKc", 2, api.OK, true, 1},
		{"", 0, api.OK, false, 0},
		{"MAR", 0, api.OK, false, 0},
		{"xyz", 0, api.OK, false, 0},
		{"MARK", 4, api.OK, false, 0},
		{"MARK", 1, api.OK, false, 0},
		{"MARL", 0, api.ErrForm, false, 0},
		{"MARKx", 1, api.ErrForm, false, 0},
		{"mark", 0, api.ErrForm, false, 0},
		{"MARK", -1, api.ErrArg, false, 0},
		{"MARK", 5, api.ErrArg, false, 0},
		{"", 1, api.ErrArg, false, 0},
		{"MARK", math.MinInt, api.ErrArg, false, 0},
		{"MARK", math.MaxInt, api.ErrArg, false, 0},
	} {
		r, e := seal.Open("MARK", []byte(x.text), x.at)
		if e != x.want || r.Ok() != x.fine || e != api.OK && r != nil || x.fine && r.Left() != x.left {
			t.Errorf("%q at %d: %d, %t, %d left", x.text, x.at, e, r.Ok(), r.Left())
		}
	}
}

func TestCloseAndCheck(t *testing.T) {
	c := crc.Make()
	body := []byte("MARKand more")
	b := seal.Close(&c, append([]byte("ahead"), body...)[5:])
	if n := len(b) - 4; !bytes.Equal(b[:n], body) || crc32.ChecksumIEEE(append(body, b[n:]...)) != 0x2144df1c {
		t.Errorf("%x", b)
	}
	check := func(b []byte, n int) api.Errno {
		r, e := seal.Open("MARK", b, 2)
		if e != api.OK {
			return e
		}
		r.Bytes(n)
		return seal.Check(&c, r, b, 2)
	}
	whole := append([]byte("xx"), b...)
	if e := check(append(bytes.Clone(whole), "behind"...), 8); e != api.OK {
		t.Error(e)
	}
	for n := 2; n < len(whole); n++ {
		if e := check(whole[:n], 8); e != api.ErrEnd {
			t.Errorf("%d bytes: %d", n, e)
		}
	}
	for _, n := range []int{0, 7} {
		if e := check(whole, n); e != api.ErrSum {
			t.Errorf("of %d bytes: %d", n, e)
		}
	}
	for at, spoilt := range sample.Bursts(b, 1) {
		want := api.ErrSum
		if at < 32 {
			want = api.ErrForm
		}
		if e := check(append([]byte("xx"), spoilt...), 8); e != want {
			t.Errorf("at %d: %d", at, e)
		}
	}
}

func TestThree(t *testing.T) {
	c := crc.Make()
	n := [3]uint32{1, 0x04030201, 0xffffffff}
	b := seal.PutThree(&c, "MARK", n)
	if string(b[:16]) != "MARK\x01\x00\x00\x00\x01\x02\x03\x04\xff\xff\xff\xff" || len(b) != 20 || crc32.ChecksumIEEE(b) != 0x2144df1c {
		t.Errorf("%x", b)
	}
	among := append(append([]byte("xx"), b...), "behind"...)
	want := func(what string, b []byte, at int, n [3]uint32, e api.Errno) {
		t.Helper()
		if got, ge := seal.TakeThree(&c, "MARK", b, at); got != n || ge != e {
			t.Errorf("%s: %d %d, not %d %d", what, got, ge, n, e)
		}
	}
	none := [3]uint32{}
	want("alone", b, 0, n, api.OK)
	want("among others", among, 2, n, api.OK)
	want("at another place", among, 1, none, api.ErrForm)
	want("at no place", among, -1, none, api.ErrArg)
	for k := range b {
		want("too short", b[:k], 0, none, api.ErrEnd)
		spoilt := bytes.Clone(b)
		spoilt[k]++
		e := api.ErrSum
		if k < 4 {
			e = api.ErrForm
		}
		want("another byte", spoilt, 0, none, e)
	}
}
