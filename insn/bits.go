package insn

// piece is bits of a word: the lowest width ones of bits.
type piece struct {
	bits  uint32
	width int
}

func whole(v uint8, width int) piece { return piece{uint32(v), width} }

// cut is so many bits of v, from the bit from on.
func cut(v int64, from, width int) piece { return piece{uint32(v >> from), width} }

// lay is pieces, one behind the other, from the lowest bit on.
func lay(pieces ...piece) uint32 {
	var w uint32
	at := 0
	for _, p := range pieces {
		w |= (p.bits & (1<<p.width - 1)) << at
		at += p.width
	}
	return w
}
