package mem

import "sacristy/api"

// New is a memory of these regions.
func New(l []api.Region) (*Mem, api.Errno) {
	if !mayBe(l) {
		return nil, api.ErrArg
	}
	all := room(l)
	m, begun := &Mem{}, uint64(0)
	for _, r := range l {
		m.areas = append(m.areas, area{r, all.part(begun, r.Size)})
		begun += r.Size
	}
	return m, api.OK
}

// room is bytes for all these regions.
func room(l []api.Region) stretch {
	size := uint64(0)
	for _, r := range l {
		size += r.Size
	}
	return stretch{make([]byte, size), make([]bool, size)}
}

// mayBe tells whether these regions may be.
func mayBe(l []api.Region) bool {
	if len(l) < 1 || len(l) > api.MaxRegions {
		return false
	}
	for k, r := range l {
		if !mayBeOne(r) || meetsOne(r, l[:k]) {
			return false
		}
	}
	return true
}

// mayBeOne tells whether r has a kind, a size, and places that may be.
func mayBeOne(r api.Region) bool {
	if r.Kind < api.RegCode || r.Kind > api.RegOut || r.Size < 1 || r.Size > api.MaxRegion {
		return false
	}
	return r.From <= api.MaxPlace-r.Size
}

// meetsOne tells whether a place of r is in one of l, too. None of them goes beyond MaxPlace.
func meetsOne(r api.Region, l []api.Region) bool {
	for _, o := range l {
		if r.From < o.From+o.Size && o.From < r.From+r.Size {
			return true
		}
	}
	return false
}
