package word_test

import (
	"math"
	"math/big"
	"testing"

	"sacristy/api"
	"sacristy/word"
)

// TestSignTold (P1.2): ordinary cases and edges.
func TestSignTold(t *testing.T) {
	for _, x := range []struct {
		v    uint64
		bits int
		want uint64
	}{
		{255, 8, top}, {127, 8, 127}, {128, 8, top - 127}, {256, 8, 0}, {0x1234, 8, 0x34}, {0, 1, 0}, {1, 1, top}, {2, 1, 0}, {3, 1, top},
		{2047, 12, 2047}, {2048, 12, top - 2047}, {4095, 12, top}, {1 << 31, 32, top - (1<<31 - 1)}, {1 << 62, 63, top - (1<<62 - 1)}, {1 << 63, 63, 0},
		{1 << 63, 64, 1 << 63}, {top, 64, top}, {12345, 64, 12345},
	} {
		if v, e := word.Sign(x.v, x.bits); v != x.want || e != api.OK {
			t.Errorf("Sign(%d, %d): %d, %v, not %d", x.v, x.bits, v, e, x.want)
		}
	}
}

// within tells whether n is from -2^(bits - 1) to 2^(bits - 1) - 1.
func within(n *big.Int, bits int) bool {
	end := pow2(uint(bits - 1))
	return n.Cmp(new(big.Int).Neg(end)) >= 0 && n.Cmp(end) < 0
}

// TestSignLeaves (P1.2): for each number of bits, the answer leaves what v leaves, and lies where it may.
func TestSignLeaves(t *testing.T) {
	for bits := 1; bits <= 64; bits++ {
		for _, v := range words() {
			w, e := word.Sign(v, bits)
			if e != api.OK {
				t.Fatalf("Sign(%d, %d): %v", v, bits, e)
			}
			less := new(big.Int).Sub(number(v), number(w))
			if less.Mod(less, pow2(uint(bits))).Sign() != 0 || !within(signed(w), bits) {
				t.Fatalf("Sign(%d, %d): %d", v, bits, w)
			}
		}
	}
}

// wrongBits has numbers of bits that no number has.
func wrongBits() []int { return []int{0, -1, 65, 128, -64, math.MinInt, math.MaxInt} }

// TestSignRefused (P1.2): ErrArg, and 0, beside 1 to 64 bits.
func TestSignRefused(t *testing.T) {
	for _, bits := range wrongBits() {
		for _, v := range []uint64{0, 1, 1 << 63, top} {
			if w, e := word.Sign(v, bits); w != 0 || e != api.ErrArg {
				t.Errorf("Sign(%d, %d): %d, %v", v, bits, w, e)
			}
		}
	}
}

// TestFits (P1.2): for each number of bits, the numbers about both ends, and others.
func TestFits(t *testing.T) {
	if !word.Fits(2047, 12) || word.Fits(2048, 12) || !word.Fits(-2048, 12) || word.Fits(-2049, 12) {
		t.Error("12 bits")
	}
	if !word.Fits(math.MinInt64, 64) || !word.Fits(math.MaxInt64, 64) || word.Fits(math.MinInt64, 63) || word.Fits(math.MaxInt64, 63) {
		t.Error("64 and 63 bits")
	}
	if !word.Fits(0, 1) || !word.Fits(-1, 1) || word.Fits(1, 1) || word.Fits(-2, 1) {
		t.Error("1 bit")
	}
	for bits := 1; bits <= 64; bits++ {
		for _, w := range words() {
			if v := int64(w); word.Fits(v, bits) != within(big.NewInt(v), bits) {
				t.Fatalf("Fits(%d, %d): %v", v, bits, word.Fits(v, bits))
			}
		}
	}
}

// TestFitsRefused (P1.2): nothing fits beside 1 to 64 bits.
func TestFitsRefused(t *testing.T) {
	for _, bits := range wrongBits() {
		for _, v := range []int64{0, 1, -1, math.MinInt64, math.MaxInt64} {
			if word.Fits(v, bits) {
				t.Errorf("Fits(%d, %d)", v, bits)
			}
		}
	}
}

// TestBytes (P1.3): the lowest n bytes, the lowest one first, and no others.
func TestBytes(t *testing.T) {
	for _, x := range []struct {
		v    uint64
		n    int
		want string
	}{
		{258, 3, "\x02\x01\x00"}, {258, 1, "\x02"}, {0, 1, "\x00"}, {0, 8, "\x00\x00\x00\x00\x00\x00\x00\x00"}, {top, 2, "\xff\xff"},
		{0x8877665544332211, 8, "\x11\x22\x33\x44\x55\x66\x77\x88"}, {0x8877665544332211, 7, "\x11\x22\x33\x44\x55\x66\x77"}, {0x8877665544332211, 4, "\x11\x22\x33\x44"},
	} {
		if s, e := word.Bytes(x.v, x.n); s != x.want || e != api.OK {
			t.Errorf("Bytes(%d, %d): %q, %v, not %q", x.v, x.n, s, e, x.want)
		}
	}
	for _, n := range []int{0, -1, 9, math.MinInt, math.MaxInt} {
		if s, e := word.Bytes(top, n); s != "" || e != api.ErrArg {
			t.Errorf("Bytes(.., %d): %q, %v", n, s, e)
		}
	}
}

// TestWord (P1.3): the number of the bytes, whatever they are as runes.
func TestWord(t *testing.T) {
	for _, x := range []struct {
		s    string
		want uint64
	}{
		{"\x02\x01", 258}, {"\x00", 0}, {"\xff", 255}, {"a", 97}, {"ä", 0xa4c3}, {"\x00\x00\x01", 1 << 16}, {"\x01\x00\x00\x00", 1},
		{"\x11\x22\x33\x44\x55\x66\x77\x88", 0x8877665544332211}, {"\xff\xff\xff\xff\xff\xff\xff\xff", top}, {"\x00\x00\x00\x00\x00\x00\x00\x80", 1 << 63},
	} {
		if v, e := word.Word(x.s); v != x.want || e != api.OK {
			t.Errorf("Word(%q): %d, %v, not %d", x.s, v, e, x.want)
		}
	}
	for _, s := range []string{"", "123456789", "\x00\x00\x00\x00\x00\x00\x00\x00\x00", string(make([]byte, 1<<16))} {
		if v, e := word.Word(s); v != 0 || e != api.ErrArg {
			t.Errorf("Word of %d bytes: %d, %v", len(s), v, e)
		}
	}
}

// TestThereAndBack (P1.4): the bytes of a number lead back to what it leaves, and are told again by that.
func TestThereAndBack(t *testing.T) {
	for n := 1; n <= 8; n++ {
		for _, v := range words() {
			s, e := word.Bytes(v, n)
			if e != api.OK || len(s) != n {
				t.Fatalf("Bytes(%d, %d): %q, %v", v, n, s, e)
			}
			left := new(big.Int).Mod(number(v), pow2(uint(8*n))).Uint64()
			w, e := word.Word(s)
			if e != api.OK || w != left {
				t.Fatalf("Word(%q): %d, %v, not %d", s, w, e, left)
			}
			if again, e := word.Bytes(w, n); e != api.OK || again != s {
				t.Fatalf("Bytes(%d, %d): %q, %v, not %q", w, n, again, e, s)
			}
		}
	}
}
