package word_test

import (
	"math/big"
	"testing"

	"sacristy/api"
	"sacristy/word"
)

const top = ^uint64(0) // 2^64 - 1

// pow2 is 2^k.
func pow2(k uint) *big.Int { return new(big.Int).Lsh(big.NewInt(1), k) }

func number(v uint64) *big.Int { return new(big.Int).SetUint64(v) }

// signed is v, read as signed.
func signed(v uint64) *big.Int {
	n := number(v)
	if v >= 1<<63 {
		n.Sub(n, pow2(64))
	}
	return n
}

// words has those at which numbers, signs and halves turn, and some scattered ones.
func words() []uint64 {
	l := []uint64{0, 3, 5, 7, 10, 63, 64, 65, 66, 127, 128, 255, 256, 258, 1<<63 - 2, 1<<63 + 2}
	for k := range 64 {
		l = append(l, 1<<k, 1<<k-1, -(uint64(1) << k))
	}
	v := uint64(0x9e3779b97f4a7c15)
	for range 40 {
		v = v*6364136223846793005 + 1442695040888963407
		l = append(l, v, v>>32)
	}
	return l
}

func op(t *testing.T, fn uint8, a, b uint64) uint64 {
	t.Helper()
	v, e := word.Op(fn, a, b)
	if e != api.OK {
		t.Fatalf("Op(%d, %d, %d): %v", fn, a, b, e)
	}
	return v
}

// TestOpTold (P1.1): each row of the chapter's table, in ordinary cases and at its edges.
func TestOpTold(t *testing.T) {
	for _, x := range []struct {
		fn         uint8
		a, b, want uint64
	}{
		{api.InAdd, 2, 3, 5}, {api.InAdd, top, 1, 0}, {api.InAdd, 1 << 63, 1 << 63, 0},
		{api.InSub, 5, 3, 2}, {api.InSub, 0, 1, top}, {api.InSub, 3, 5, top - 1},
		{api.InMul, 6, 7, 42}, {api.InMul, 1 << 32, 1 << 32, 0}, {api.InMul, top, top, 1},
		{api.InSll, 3, 4, 48}, {api.InSll, 3, 0, 3}, {api.InSll, 3, 63, 1 << 63}, {api.InSll, 3, 64, 3}, {api.InSll, 3, 65, 6}, {api.InSll, 1, top, 1 << 63},
		{api.InSrl, 48, 4, 3}, {api.InSrl, 15, 2, 3}, {api.InSrl, top, 63, 1}, {api.InSrl, 7, 64, 7}, {api.InSrl, 7, 65, 3}, {api.InSrl, 1 << 63, 1 << 63, 1 << 63},
		{api.InSra, 48, 4, 3}, {api.InSra, top - 7, 65, top - 3}, {api.InSra, top - 6, 1, top - 3}, {api.InSra, 1 << 63, 63, top}, {api.InSra, top, 64, top},
		{api.InSlt, 2, 3, 1}, {api.InSlt, 3, 2, 0}, {api.InSlt, 3, 3, 0}, {api.InSlt, top, 0, 1}, {api.InSlt, 1 << 63, 1<<63 - 1, 1}, {api.InSlt, 0, top, 0},
		{api.InSltu, 2, 3, 1}, {api.InSltu, 3, 2, 0}, {api.InSltu, 3, 3, 0}, {api.InSltu, top, 0, 0}, {api.InSltu, 1 << 63, 1<<63 - 1, 0}, {api.InSltu, 0, top, 1},
		{api.InXor, 6, 3, 5}, {api.InXor, top, top, 0}, {api.InOr, 6, 3, 7}, {api.InOr, 0, top, top}, {api.InAnd, 6, 3, 2}, {api.InAnd, 0, top, 0},
		{api.InMulhu, 6, 7, 0}, {api.InMulhu, 1 << 63, 6, 3}, {api.InMulhu, top, top, top - 1}, {api.InMulhu, 1 << 32, 1 << 32, 1},
		{api.InDivu, 17, 5, 3}, {api.InDivu, 5, 0, top}, {api.InDivu, 0, 0, top}, {api.InDivu, top, 1, top}, {api.InDivu, 1 << 63, top, 0},
		{api.InRemu, 17, 5, 2}, {api.InRemu, 5, 0, 5}, {api.InRemu, 0, 0, 0}, {api.InRemu, top, 1, 0}, {api.InRemu, 1 << 63, top, 1 << 63},
	} {
		if v := op(t, x.fn, x.a, x.b); v != x.want {
			t.Errorf("Op(%d, %d, %d): %d, not %d", x.fn, x.a, x.b, v, x.want)
		}
	}
}

// made is what the chapter's table says of a and b, in numbers without bounds.
func made(fn uint8, a, b uint64) *big.Int {
	x, y, k := number(a), number(b), pow2(uint(new(big.Int).Mod(number(b), big.NewInt(64)).Uint64()))
	below := func(c int) *big.Int {
		if c < 0 {
			return big.NewInt(1)
		}
		return new(big.Int)
	}
	switch fn {
	case api.InAdd:
		return x.Add(x, y)
	case api.InSub:
		return x.Sub(x, y)
	case api.InMul:
		return x.Mul(x, y)
	case api.InSll:
		return x.Mul(x, k)
	case api.InSrl:
		return x.Div(x, k)
	case api.InSra:
		return x.Div(signed(a), k) // k is above 0: Div rounds down
	case api.InSlt:
		return below(signed(a).Cmp(signed(b)))
	case api.InSltu:
		return below(x.Cmp(y))
	case api.InXor:
		return x.Xor(x, y)
	case api.InOr:
		return x.Or(x, y)
	case api.InAnd:
		return x.And(x, y)
	case api.InMulhu:
		return x.Div(x.Mul(x, y), pow2(64))
	case api.InDivu:
		if b == 0 {
			return number(top)
		}
		return x.Div(x, y)
	}
	if b == 0 {
		return x
	}
	return x.Mod(x, y)
}

// TestOpMakes (P1.1): every instruction of two registers makes what the table says, modulo 2^64, and makes it again.
func TestOpMakes(t *testing.T) {
	for fn := api.InAdd; fn <= api.InRemu; fn++ {
		for _, a := range words() {
			for _, b := range words() {
				want := made(fn, a, b)
				want.Mod(want, pow2(64))
				if v, again := op(t, fn, a, b), op(t, fn, a, b); v != want.Uint64() || again != v {
					t.Fatalf("Op(%d, %d, %d): %d, then %d, not %d", fn, a, b, v, again, want)
				}
			}
		}
	}
}

// TestOpRefused (P1.1): ErrArg, and 0, for each number that is none of an instruction of two registers.
func TestOpRefused(t *testing.T) {
	if api.ErrArg != 2 {
		t.Error(api.ErrArg)
	}
	for k := range 256 {
		fn := uint8(k)
		if fn >= api.InAdd && fn <= api.InRemu {
			continue
		}
		for _, b := range []uint64{0, 1, top} {
			if v, e := word.Op(fn, top, b); v != 0 || e != api.ErrArg {
				t.Errorf("Op(%d, .., %d): %d, %v", fn, b, v, e)
			}
		}
	}
}

// TestDivision (P1.4): what InDivu makes, times b, and what InRemu makes, are a; the rest is below b.
func TestDivision(t *testing.T) {
	for _, a := range words() {
		for _, b := range words() {
			q, r := op(t, api.InDivu, a, b), op(t, api.InRemu, a, b)
			if v := op(t, api.InAdd, op(t, api.InMul, q, b), r); v != a {
				t.Fatalf("%d by %d: %d and %d lead to %d", a, b, q, r, v)
			}
			if b != 0 && r >= b {
				t.Fatalf("%d by %d leaves %d", a, b, r)
			}
		}
	}
}

// product is a times b, of its two halves.
func product(t *testing.T, a, b uint64) *big.Int {
	t.Helper()
	v := new(big.Int).Lsh(number(op(t, api.InMulhu, a, b)), 64)
	return v.Or(v, number(op(t, api.InMul, a, b)))
}

// TestProducts (P1.4): both halves are the product, whichever way it is asked, and products of a sum are the sum of products.
func TestProducts(t *testing.T) {
	for _, a := range words() {
		for _, b := range words() {
			v := product(t, a, b)
			if v.Cmp(new(big.Int).Mul(number(a), number(b))) != 0 || v.Cmp(product(t, b, a)) != 0 {
				t.Fatalf("%d times %d: %d", a, b, v)
			}
			c := (top - b) / 3 // so that b and c together are still a word
			if sum := new(big.Int).Add(v, product(t, a, c)); sum.Cmp(product(t, a, op(t, api.InAdd, b, c))) != 0 {
				t.Fatalf("%d times %d and %d: %d", a, b, c, sum)
			}
		}
	}
}
