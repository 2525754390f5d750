package mem_test

import (
	"math"
	"slices"
	"strings"
	"testing"

	"sacristy/api"
	"sacristy/mem"
)

const top = ^uint64(0) // 2^64 - 1

// town has regions of all kinds: apart, one next to the other, of one kind next to each other, and shorter than a number.
func town() []api.Region {
	return []api.Region{
		{From: 200, Size: 8, Kind: api.RegCode}, {From: 100, Size: 16, Kind: api.RegArena}, {From: 116, Size: 20, Kind: api.RegArena},
		{From: 136, Size: 12, Kind: api.RegIn}, {From: 148, Size: 9, Kind: api.RegOut}, {From: 157, Size: 3, Kind: api.RegOut},
		{From: 208, Size: 7, Kind: api.RegCode}, {From: 222, Size: 9, Kind: api.RegCode}, {From: 231, Size: 8, Kind: api.RegIn}, {From: 0, Size: 5, Kind: api.RegArena},
		{From: 1<<40 - 10, Size: 10, Kind: api.RegOut}, {From: 1<<40 - 18, Size: 8, Kind: api.RegCode},
	}
}

// spots has all places about the town's regions, and about both ends of all numbers.
func spots() []uint64 {
	var l []uint64
	for at := range uint64(260) {
		l = append(l, at, -at-1, 1<<40-at, 1<<40+at)
	}
	return append(l, 1<<63, 1<<63+100, 1<<32+100, 1<<48+100, 1<<16+100, 256+100)
}

// filled is the town with a byte of its own at each place, every third one tainted, and its model.
func filled(t *testing.T) (*mem.Mem, model) {
	t.Helper()
	m, o := made(t, town()...), modelOf(town())
	for at := range o {
		s, taint := string([]byte{byte(at*37 + 11)}), at%3 == 0
		if e := m.Set(at, s, taint); e != api.OK || o.set(at, s, taint) != e {
			t.Fatalf("Set(%d): %v", at, e)
		}
	}
	return m, o
}

// TestFirst (P4.1): at first all bytes are 0, and none is tainted.
func TestFirst(t *testing.T) {
	for _, l := range regionsThatMay() {
		for _, r := range l {
			s, taints, e := made(t, l...).Bytes(r.From, int(r.Size))
			if e != api.OK || s != strings.Repeat("\x00", int(r.Size)) || !slices.Equal(taints, make([]bool, r.Size)) {
				t.Errorf("Bytes of %v: %d and %d, %v", r, len(s), len(taints), e)
			}
		}
	}
}

// TestTold (P4.2, P4.3): the chapter's table, and what goes on from there.
func TestTold(t *testing.T) {
	m := made(t, api.Region{From: 100, Size: 16, Kind: api.RegArena}, api.Region{From: 200, Size: 8, Kind: api.RegCode})
	if e := m.Store(100, 2, 0x991234, true); e != api.OK {
		t.Error(e)
	}
	for _, x := range []struct {
		at    uint64
		n     int
		v     uint64
		taint bool
		e     api.Errno
	}{
		{100, 1, 0x34, true, api.OK}, {101, 1, 0x12, true, api.OK}, {102, 1, 0, false, api.OK}, {100, 8, 0x1234, true, api.OK}, {101, 8, 0x12, true, api.OK},
		{102, 8, 0, false, api.OK}, {108, 8, 0, false, api.OK}, {109, 8, 0, false, api.ErrFault}, {115, 1, 0, false, api.OK}, {116, 1, 0, false, api.ErrFault},
		{99, 1, 0, false, api.ErrFault}, {99, 2, 0, false, api.ErrFault}, {200, 1, 0, false, api.ErrFault}, {100, 0, 0, false, api.ErrArg}, {100, 9, 0, false, api.ErrArg},
	} {
		if v, taint, e := m.Load(x.at, x.n); v != x.v || taint != x.taint || e != x.e {
			t.Errorf("Load(%d, %d): %d, %v, %v", x.at, x.n, v, taint, e)
		}
	}
	if e := m.Store(200, 1, 1, false); e != api.ErrFault {
		t.Error(e)
	}
	if e := m.Set(200, "\x78\x56\x34\x12\xff", true); e != api.OK {
		t.Error(e)
	}
	for at, want := range map[uint64]uint32{200: 0x12345678, 204: 0xff} {
		if v, e := m.Fetch(at); v != want || e != api.OK {
			t.Errorf("Fetch(%d): %x, %v", at, v, e)
		}
	}
	for _, at := range []uint64{100, 196, 201, 202, 203, 205, 208, 0, top, top - 3} {
		if v, e := m.Fetch(at); v != 0 || e != api.ErrFault {
			t.Errorf("Fetch(%d): %x, %v", at, v, e)
		}
	}
}

// TestLoad (P4.2): all places, with each number of bytes, one more and one less: no kind but the code, within one region.
func TestLoad(t *testing.T) {
	m, o := filled(t)
	for _, at := range spots() {
		for n := range 10 {
			v, taint, e := o.load(at, n)
			if w, x, f := m.Load(at, n); w != v || x != taint || f != e {
				t.Fatalf("Load(%d, %d): %x, %v, %v, not %x, %v, %v", at, n, w, x, f, v, taint, e)
			}
		}
	}
	same(t, m, o)
}

// TestStore (P4.2, P4.5): all places likewise: what lies there is new, all else as it was; with an error, all.
func TestStore(t *testing.T) {
	m, o := filled(t)
	v := uint64(0x9e3779b97f4a7c15)
	for _, at := range spots() {
		for n := range 10 {
			v = v*6364136223846793005 + 1442695040888963407
			taint := v>>40&1 == 1
			if e, want := m.Store(at, n, v, taint), o.store(at, n, v, taint); e != want {
				t.Fatalf("Store(%d, %d): %v, not %v", at, n, e, want)
			}
		}
		same(t, m, o)
	}
}

// TestStoreBeside (P4.5): bytes ahead of what is stored, and behind it, are as they were, and tainted as they were.
func TestStoreBeside(t *testing.T) {
	for n := 1; n <= 8; n++ {
		for _, was := range []bool{false, true} {
			m := made(t, api.Region{From: 50, Size: 10, Kind: api.RegOut})
			if e := m.Set(50, strings.Repeat("\xaa", 10), was); e != api.OK {
				t.Fatal(e)
			}
			if e := m.Store(51, n, 0x8877665544332211, !was); e != api.OK {
				t.Fatal(e)
			}
			s, taints, e := m.Bytes(50, 10)
			if want := "\xaa" + "\x11\x22\x33\x44\x55\x66\x77\x88"[:n] + strings.Repeat("\xaa", 9-n); s != want || e != api.OK {
				t.Errorf("Store of %d: %x, %v", n, s, e)
			}
			for k, is := range taints {
				if inside := k >= 1 && k <= n; is != (was != inside) {
					t.Errorf("Store of %d: byte %d is tainted: %v", n, k, is)
				}
			}
		}
	}
}

// TestLoadTaint (P4.2): a number is tainted, if one of its bytes is, whichever; not by one beside it.
func TestLoadTaint(t *testing.T) {
	for k := range uint64(24) {
		m := made(t, api.Region{From: 64, Size: 24, Kind: api.RegArena})
		if e := m.Store(64+k, 1, 0, true); e != api.OK {
			t.Fatal(e)
		}
		for at := range uint64(16) {
			for n := range uint64(9) {
				if _, taint, e := m.Load(64+at, int(n)); n > 0 && (taint != (at <= k && k < at+n) || e != api.OK) {
					t.Errorf("%d tainted: Load(%d, %d): %v, %v", k, at, n, taint, e)
				}
			}
		}
	}
}

// TestWordRefused (P4.2): ErrArg, wherever it is, of numbers of bytes that no number has; nothing changes.
func TestWordRefused(t *testing.T) {
	m, o := filled(t)
	for _, n := range []int{0, 9, -1, -8, 16, 1 << 20, 1<<32 + 1, 256 + 1, math.MaxInt, math.MinInt, math.MinInt + 1} {
		for _, at := range []uint64{100, 136, 200, 300, 0, top} {
			if v, taint, e := m.Load(at, n); v != 0 || taint || e != api.ErrArg {
				t.Errorf("Load(%d, %d): %d, %v, %v", at, n, v, taint, e)
			}
			if e := m.Store(at, n, top, true); e != api.ErrArg {
				t.Errorf("Store(%d, %d): %v", at, n, e)
			}
		}
	}
	same(t, m, o)
}

// TestFetch (P4.3): all places: of the code alone, and of multiples of 4.
func TestFetch(t *testing.T) {
	m, o := filled(t)
	for _, at := range spots() {
		v, e := o.fetch(at)
		if w, f := m.Fetch(at); w != v || f != e {
			t.Fatalf("Fetch(%d): %x, %v, not %x, %v", at, w, f, v, e)
		}
	}
	same(t, m, o)
}

// TestSet (P4.4, P4.5): all places, with texts from none to longer than any region: of each kind, within one region.
func TestSet(t *testing.T) {
	m, o := filled(t)
	text := "the quick brown fox jumps over it all"
	for k, at := range spots() {
		for n := range 25 {
			s, taint := text[k%12:k%12+n], (k+n)%2 == 0
			if e, want := m.Set(at, s, taint), o.set(at, s, taint); e != want {
				t.Fatalf("Set(%d, %q): %v, not %v", at, s, e, want)
			}
		}
		same(t, m, o)
	}
}

// TestBytes (P4.4): all places, with none to more bytes than any region has.
func TestBytes(t *testing.T) {
	m, o := filled(t)
	for _, at := range spots() {
		for n := -1; n < 25; n++ {
			s, taints, e := o.bytes(at, n)
			if r, l, f := m.Bytes(at, n); r != s || !slices.Equal(l, taints) || f != e {
				t.Fatalf("Bytes(%d, %d): %q, %v, %v, not %q, %v, %v", at, n, r, l, f, s, taints, e)
			}
		}
	}
	same(t, m, o)
}

// TestWhole (P4.4): a region of MaxRegion bytes, all at once; one more is ErrArg of Bytes, and ErrFault of Set.
func TestWhole(t *testing.T) {
	const size = 1 << 20
	m := made(t, api.Region{From: 7, Size: size, Kind: api.RegIn}, api.Region{From: 7 + size, Size: size, Kind: api.RegIn})
	s := strings.Repeat("sacristy", size/8)
	if e := m.Set(7, s, true); e != api.OK {
		t.Error(e)
	}
	if got, taints, e := m.Bytes(7, size); got != s || len(taints) != size || slices.Contains(taints, false) || e != api.OK {
		t.Errorf("Bytes: %d and %d, %v", len(got), len(taints), e)
	}
	if got, taints, e := m.Bytes(7+size, size); strings.Trim(got, "\x00") != "" || len(got) != size || len(taints) != size || slices.Contains(taints, true) || e != api.OK {
		t.Errorf("Bytes of the next one: %d and %d, %v", len(got), len(taints), e)
	}
	if e := m.Set(7, s+"x", true); e != api.ErrFault {
		t.Error(e)
	}
	if got, taints, e := m.Bytes(8, size); got != "" || len(taints) != 0 || e != api.ErrFault {
		t.Errorf("Bytes into the next one: %d and %d, %v", len(got), len(taints), e)
	}
	for _, n := range []int{size + 1, -1, 1 << 40, math.MaxInt, math.MinInt} {
		for _, at := range []uint64{7, 8, 0, top} {
			if got, taints, e := m.Bytes(at, n); got != "" || len(taints) != 0 || e != api.ErrArg {
				t.Errorf("Bytes(%d, %d): %d and %d, %v", at, n, len(got), len(taints), e)
			}
		}
	}
}

// TestBytesOwn (P4.5): taints that were told are not the memory's own, and two answers have none in common.
func TestBytesOwn(t *testing.T) {
	m := made(t, api.Region{From: 10, Size: 4, Kind: api.RegArena})
	if e := m.Set(10, "abcd", true); e != api.OK {
		t.Fatal(e)
	}
	_, l, _ := m.Bytes(10, 4)
	_, o, _ := m.Bytes(10, 4)
	clear(l)
	_ = append(l[:2], false, false)
	if slices.Contains(o, false) {
		t.Error(o)
	}
	if s, l, e := m.Bytes(10, 4); s != "abcd" || slices.Contains(l, false) || e != api.OK {
		t.Errorf("Bytes: %q, %v, %v", s, l, e)
	}
	_, part, _ := m.Bytes(10, 2)
	_ = append(part, false)
	if _, taint, e := m.Load(12, 1); !taint || e != api.OK {
		t.Error(taint, e)
	}
}

// TestScattered (P4.5): calls of all kinds, one behind the other: what was laid last is there, byte by byte, and nothing else has changed.
func TestScattered(t *testing.T) {
	m, o := made(t, town()...), modelOf(town())
	v, places := uint64(1), spots()
	for range 30000 {
		v = v*6364136223846793005 + 1442695040888963407
		at, n, taint := places[v>>33%uint64(len(places))], int(v>>28&15)-1, v>>27&1 == 1
		switch v >> 24 & 7 {
		case 0, 1, 2:
			if e, want := m.Store(at, n, v, taint), o.store(at, n, v, taint); e != want {
				t.Fatalf("Store(%d, %d): %v, not %v", at, n, e, want)
			}
		case 3, 4:
			s := "ABCDEFGHIJKLMNOP"[:n+1]
			if e, want := m.Set(at, s, taint), o.set(at, s, taint); e != want {
				t.Fatalf("Set(%d, %q): %v, not %v", at, s, e, want)
			}
		default:
			w, is, e := o.load(at, n)
			if x, also, f := m.Load(at, n); x != w || also != is || f != e {
				t.Fatalf("Load(%d, %d): %x, %v, %v, not %x, %v, %v", at, n, x, also, f, w, is, e)
			}
		}
	}
	same(t, m, o)
}
