package label_test

import (
	"bytes"
	"slices"
	"testing"

	"sacristy/api"
	"sacristy/label"
	"sacristy/stmt"
)

// inputs is two inputs of f, that differ in secrets alone.
func (c *chance) inputs(f api.Func) (numbers [2][]uint64, buffers [2][][]byte) {
	for _, p := range f.Params {
		size := c.below(9)
		var values [2]uint64
		var handed [2][]byte
		for k := range 2 {
			values[k] = uint64(c.below(6))
			if c.below(4) == 0 {
				values[k] = uint64(c.below(1<<30)) << c.below(34)
			}
			for range size {
				handed[k] = append(handed[k], byte(c.below(5)))
			}
		}
		if !p.Sec {
			values[1], handed[1] = values[0], slices.Clone(handed[0])
		}
		for k := range 2 {
			if p.Buf {
				buffers[k] = append(buffers[k], handed[k])
			} else {
				numbers[k] = append(numbers[k], values[k])
			}
		}
	}
	return numbers, buffers
}

// apart tells of two runs of p, that differ in secrets alone, whether they are seen the same, up to the first number that is told otherwise; if all that they tell is the same, what is not secret is so at their end, too.
func apart(p api.Prog, c *chance) (is, same bool) {
	last := p.Funcs[len(p.Funcs)-1]
	numbers, buffers := c.inputs(last)
	a, x := ran(p, numbers[0], buffers[0])
	b, y := ran(p, numbers[1], buffers[1])
	n := alike(a, b)
	if n < len(a) || n < len(b) {
		return tells(a, n) && tells(b, n), false
	}
	if !last.Sec && x != y {
		return false, true
	}
	k := 0
	for _, param := range last.Params {
		if !param.Buf {
			continue
		}
		if !param.Sec && !bytes.Equal(buffers[0][k], buffers[1][k]) {
			return false, true
		}
		k++
	}
	return true, true
}

// TestApart (P12.2): nothing of a program that is let be hangs on secrets, but by what it tells; of others something often does.
func TestApart(t *testing.T) {
	same, otherwise, leaks := 0, 0, 0
	for k := range 12000 {
		p := scattered(k, wrongs(k)/2, 1+k%4, 1+k%5)
		if stmt.Check(p) != api.OK || len(p.Funcs) == 0 {
			continue
		}
		isLet := label.Check(p) == nil
		c := chance(k)
		for range 4 {
			is, toldSame := apart(p, &c)
			switch {
			case !is && isLet:
				t.Fatalf("it is not kept apart: %.900s", told(p))
			case !is:
				leaks++
			case isLet && toldSame:
				same++
			case isLet:
				otherwise++
			}
		}
	}
	if same < 10000 || otherwise < 500 || leaks < 500 {
		t.Errorf("%d, %d, %d", same, otherwise, leaks)
	}
}
