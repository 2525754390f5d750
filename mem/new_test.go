package mem_test

import (
	"math"
	"slices"
	"testing"

	"sacristy/api"
	"sacristy/mem"
)

// regionsThatMay has lists of regions that may be, at the edges, too.
func regionsThatMay() [][]api.Region {
	var many []api.Region
	for k := range uint64(16) {
		many = append(many, api.Region{From: 8 * (15 - k), Size: 8, Kind: uint8(k%4) + 1}) // each ends where another one begins
	}
	return [][]api.Region{
		{{From: 100, Size: 16, Kind: 3}},
		{{From: 100, Size: 16, Kind: 3}, {From: 200, Size: 8, Kind: 1}},
		{{From: 0, Size: 1, Kind: 1}},
		{{From: 0, Size: 1 << 20, Kind: 2}},
		{{From: 1<<40 - 1, Size: 1, Kind: 4}},
		{{From: 1<<40 - 1<<20, Size: 1 << 20, Kind: 3}},
		{{From: 1<<40 - 1, Size: 1, Kind: 3}, {From: 0, Size: 1, Kind: 3}, {From: 1<<40 - 5, Size: 4, Kind: 3}},
		{{From: 7, Size: 3, Kind: 2}, {From: 10, Size: 1, Kind: 2}, {From: 6, Size: 1, Kind: 2}},
		many,
	}
}

// TestNew (P4.1): regions that may be have a memory, which tells them in the order in which they came.
func TestNew(t *testing.T) {
	for _, l := range regionsThatMay() {
		m, e := mem.New(l)
		if m == nil || e != api.OK {
			t.Fatalf("New(%v): %v, %v", l, m, e)
		}
		for range 2 {
			if got := m.Regions(); !slices.Equal(got, l) {
				t.Errorf("Regions: %v, not %v", got, l)
			}
		}
	}
}

// TestNewRefused (P4.1): ErrArg, and no memory, of regions that may not be.
func TestNewRefused(t *testing.T) {
	a := func(from, size uint64) api.Region { return api.Region{From: from, Size: size, Kind: api.RegArena} }
	var many []api.Region
	for k := range uint64(17) {
		many = append(many, a(10*k, 5))
	}
	for _, l := range [][]api.Region{
		nil, {}, many,
		{a(0, 0)}, {a(100, 0)}, {a(1<<40, 0)}, {a(0, 1<<20+1)}, {a(0, math.MaxUint64)}, {a(1, 5), a(6, 0)}, // sizes
		{{From: 1, Size: 1}}, {{From: 1, Size: 1, Kind: 5}}, {{From: 1, Size: 1, Kind: 255}}, {a(1, 5), {From: 6, Size: 1}}, // kinds
		{a(1<<40, 1)}, {a(1<<40-1, 2)}, {a(1<<40-1<<20+1, 1<<20)}, {a(1<<41, 1)}, {a(1<<63, 1)}, // beyond MaxPlace
		{a(math.MaxUint64, 1)}, {a(math.MaxUint64, 2)}, {a(math.MaxUint64-7, 16)}, {a(1, 5), a(math.MaxUint64, 1)}, // round to 0
		{a(100, 16), a(100, 16)}, {a(100, 16), a(115, 1)}, {a(100, 16), a(99, 2)}, {a(100, 16), a(104, 2)}, {a(104, 2), a(100, 16)}, {a(100, 1), a(100, 1)}, // a place in both
		{a(100, 16), a(110, 10)}, {a(110, 10), a(100, 16)}, {a(100, 16), a(120, 1), a(200, 4), a(115, 2)}, {a(0, 1<<20), a(1<<20-1, 1<<20)},
		{{From: 100, Size: 16, Kind: api.RegCode}, {From: 115, Size: 16, Kind: api.RegIn}},
		{a(5, 1), a(7, 1), a(9, 0), a(7, 1)}, slices.Concat(many[:15], []api.Region{a(4, 1)}),
	} {
		if m, e := mem.New(l); m != nil || e != api.ErrArg {
			t.Errorf("New(%v): %v, %v", l, m, e)
		}
	}
	if m, e := mem.New(many[:16]); m == nil || e != api.OK {
		t.Errorf("New of 16: %v, %v", m, e)
	}
}

// TestRegionsOwn (P4.5): what was handed in, or told, is not the memory's own.
func TestRegionsOwn(t *testing.T) {
	l := []api.Region{{From: 100, Size: 16, Kind: api.RegArena}, {From: 200, Size: 8, Kind: api.RegCode}}
	want := slices.Clone(l)
	m := made(t, l...)
	if !slices.Equal(l, want) {
		t.Errorf("New has changed %v to %v", want, l)
	}
	clear(l)
	clear(m.Regions())
	if got := m.Regions(); !slices.Equal(got, want) {
		t.Errorf("Regions: %v, not %v", got, want)
	}
	if e := m.Store(115, 1, 1, false); e != api.OK {
		t.Error(e)
	}
	if _, e := m.Fetch(204); e != api.OK {
		t.Error(e)
	}
}

// TestApart (P4.5): of two memories of the same regions, what is laid in one is not in the other one.
func TestApart(t *testing.T) {
	l := []api.Region{{From: 100, Size: 16, Kind: api.RegArena}}
	m, o := made(t, l...), made(t, l...)
	if e := m.Store(100, 8, math.MaxUint64, true); e != api.OK {
		t.Error(e)
	}
	if v, taint, e := o.Load(100, 8); v != 0 || taint || e != api.OK {
		t.Errorf("Load: %d, %v, %v", v, taint, e)
	}
}

// TestNil (P4.1 to P4.4): of nil there are no regions; all else is ErrNil, whatever else is wrong.
func TestNil(t *testing.T) {
	var m *mem.Mem
	if l := m.Regions(); len(l) != 0 {
		t.Error(l)
	}
	if api.ErrNil != 1 || api.ErrArg != 2 || api.ErrFault != 40 {
		t.Error(api.ErrNil, api.ErrArg, api.ErrFault)
	}
	for _, n := range []int{1, 8, 0, 9, -1, math.MaxInt, math.MinInt} {
		if v, taint, e := m.Load(100, n); v != 0 || taint || e != api.ErrNil {
			t.Errorf("Load: %d, %v, %v", v, taint, e)
		}
		if e := m.Store(100, n, 1, true); e != api.ErrNil {
			t.Errorf("Store: %v", e)
		}
		if s, l, e := m.Bytes(100, n); s != "" || len(l) != 0 || e != api.ErrNil {
			t.Errorf("Bytes: %q, %v, %v", s, l, e)
		}
	}
	for at := range uint64(3) {
		if v, e := m.Fetch(at); v != 0 || e != api.ErrNil {
			t.Errorf("Fetch: %d, %v", v, e)
		}
		if e := m.Set(at, "ab"[:at], true); e != api.ErrNil {
			t.Errorf("Set: %v", e)
		}
	}
}
