package mem_test

import (
	"testing"

	"sacristy/api"
	"sacristy/mem"
)

// byteAt is what a place has: which region it is in, of which kind, its byte, and whether that is tainted.
type byteAt struct {
	region int
	kind   uint8
	value  byte
	taint  bool
}

// model is a memory as the chapter tells it, place by place.
type model map[uint64]byteAt

func modelOf(l []api.Region) model {
	o := model{}
	for k, r := range l {
		for at := r.From; at < r.From+r.Size; at++ {
			o[at] = byteAt{region: k, kind: r.Kind}
		}
	}
	return o
}

// lies tells whether the n places from at on are in one region, of one of these kinds; of none, whether at is in one.
func (o model) lies(at uint64, n int, kinds ...uint8) bool {
	first, is := o[at]
	if !is {
		return false
	}
	for k := range n {
		if b, is := o[at+uint64(k)]; !is || b.region != first.region {
			return false
		}
	}
	for _, k := range kinds {
		if first.kind == k {
			return true
		}
	}
	return false
}

func (o model) load(at uint64, n int) (v uint64, taint bool, e api.Errno) {
	if n < 1 || n > 8 {
		return 0, false, api.ErrArg
	}
	if !o.lies(at, n, api.RegIn, api.RegArena, api.RegOut) {
		return 0, false, api.ErrFault
	}
	for k := n - 1; k >= 0; k-- {
		b := o[at+uint64(k)]
		v, taint = v*256+uint64(b.value), taint || b.taint
	}
	return v, taint, api.OK
}

func (o model) store(at uint64, n int, v uint64, taint bool) api.Errno {
	if n < 1 || n > 8 {
		return api.ErrArg
	}
	if !o.lies(at, n, api.RegArena, api.RegOut) {
		return api.ErrFault
	}
	for k := range uint64(n) {
		o.lay(at+k, byte(v), taint)
		v /= 256
	}
	return api.OK
}

func (o model) lay(at uint64, v byte, taint bool) {
	b := o[at]
	b.value, b.taint = v, taint
	o[at] = b
}

func (o model) fetch(at uint64) (v uint32, e api.Errno) {
	if at%4 != 0 || !o.lies(at, 4, api.RegCode) {
		return 0, api.ErrFault
	}
	for k := range uint64(4) {
		v = v/256 + uint32(o[at+k].value)*(1<<24)
	}
	return v, api.OK
}

func (o model) set(at uint64, s string, taint bool) api.Errno {
	if !o.lies(at, len(s), api.RegCode, api.RegIn, api.RegArena, api.RegOut) {
		return api.ErrFault
	}
	for k := range len(s) {
		o.lay(at+uint64(k), s[k], taint)
	}
	return api.OK
}

func (o model) bytes(at uint64, n int) (s string, taints []bool, e api.Errno) {
	if n < 0 || n > 1<<20 {
		return "", nil, api.ErrArg
	}
	if !o.lies(at, n, api.RegCode, api.RegIn, api.RegArena, api.RegOut) {
		return "", nil, api.ErrFault
	}
	for k := range uint64(n) {
		b := o[at+k]
		s, taints = s+string([]byte{b.value}), append(taints, b.taint)
	}
	return s, taints, api.OK
}

// made is a memory of these regions.
func made(t *testing.T, l ...api.Region) *mem.Mem {
	t.Helper()
	m, e := mem.New(l)
	if m == nil || e != api.OK {
		t.Fatalf("New(%v): %v, %v", l, m, e)
	}
	return m
}

// same asks every byte of the memory, and holds it against the model's.
func same(t *testing.T, m *mem.Mem, o model) {
	t.Helper()
	seen := 0
	for _, r := range m.Regions() {
		s, taints, e := m.Bytes(r.From, int(r.Size))
		if e != api.OK || len(s) != int(r.Size) || len(taints) != len(s) {
			t.Fatalf("Bytes(%d, %d): %d and %d, %v", r.From, r.Size, len(s), len(taints), e)
		}
		for k := range len(s) {
			if b := o[r.From+uint64(k)]; s[k] != b.value || taints[k] != b.taint {
				t.Fatalf("at %d: %d, %v, not %d, %v", r.From+uint64(k), s[k], taints[k], b.value, b.taint)
			}
		}
		seen += len(s)
	}
	if seen != len(o) {
		t.Fatalf("%d places, not %d", seen, len(o))
	}
}
