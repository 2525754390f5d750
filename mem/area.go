package mem

import (
	"iter"

	"sacristy/api"
)

// stretch is bytes, one behind the other, and of each whether it is tainted.
type stretch struct {
	values []byte
	taints []bool
}

// part is the n of these from from on: nothing behind them can be reached by it.
func (b stretch) part(from, n uint64) stretch {
	to := from + n
	return stretch{b.values[from:to:to], b.taints[from:to:to]}
}

// lay puts s where these bytes are; there are as many of them.
func (b stretch) lay(s string, taint bool) {
	copy(b.values, s)
	for k := range b.taints {
		b.taints[k] = taint
	}
}

// area is a region with its bytes.
type area struct {
	region api.Region
	bytes  stretch
}

// has tells whether the n places from at on are in it; of none, whether at is. Nothing is added to at, as it may be as high as a number is.
func (a area) has(at, n uint64) bool {
	end := a.region.From + a.region.Size
	return at >= a.region.From && at < end && n <= end-at
}

// holders has the areas that all n places from at on are in.
func (m *Mem) holders(at, n uint64) iter.Seq[area] {
	return func(yield func(area) bool) {
		for _, a := range m.areas {
			if a.has(at, n) && !yield(a) {
				return
			}
		}
	}
}

// find is the n bytes from at on, in a region of a kind that may be.
func (m *Mem) find(at uint64, n int, may func(kind uint8) bool) (stretch, api.Errno) {
	if m == nil {
		return stretch{}, api.ErrNil
	}
	for a := range m.holders(at, uint64(n)) {
		if may(a.region.Kind) {
			return a.bytes.part(at-a.region.From, uint64(n)), api.OK
		}
	}
	return stretch{}, api.ErrFault
}

func fetchable(kind uint8) bool { return kind == api.RegCode }

func readable(kind uint8) bool { return kind != api.RegCode }

func writable(kind uint8) bool { return kind == api.RegArena || kind == api.RegOut }

func every(uint8) bool { return true }
