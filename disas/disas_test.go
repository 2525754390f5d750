package disas_test

import (
	"slices"
	"strings"
	"testing"

	"sacristy/api"
	"sacristy/disas"
	"sacristy/insn"
)

// bytesOf is the words, each as four bytes, the lowest one first.
func bytesOf(l ...uint32) string {
	var s []byte
	for _, w := range l {
		s = append(s, byte(w), byte(w>>8), byte(w>>16), byte(w>>24))
	}
	return string(s)
}

// sameAsFound asks for the instruction that w has bit by bit, or for ErrForm and nothing.
func sameAsFound(t *testing.T, w uint32) {
	t.Helper()
	want, is := find(w)
	e := api.ErrForm
	if is {
		e = api.OK
	}
	if x, f := disas.Decode(w); x != want || f != e {
		t.Fatalf("Decode(%08x): %+v, %v, not %+v, %v", w, x, f, want, e)
	}
}

// TestDecodeTold (P3.1): one instruction of each Op at least, written out by hand.
func TestDecodeTold(t *testing.T) {
	had := map[uint8]bool{}
	for _, o := range one() {
		had[o.x.Op] = true
		if x, e := disas.Decode(o.w); x != o.x || e != api.OK {
			t.Errorf("Decode(%08x): %+v, %v, not %+v", o.w, x, e, o.x)
		}
	}
	if len(had) != 34 {
		t.Errorf("%d Ops of 34 are told", len(had))
	}
}

// TestDecodeFields (P3.1): of each Op every register and every bit of its number, where its form has them.
func TestDecodeFields(t *testing.T) {
	for _, k := range known {
		for _, f := range fills() {
			w := f&^k.mask | k.same
			if x, e := disas.Decode(w); x != k.read(w) || e != api.OK {
				t.Fatalf("Decode(%08x): %+v, %v, not %+v", w, x, e, k.read(w))
			}
			if x, e := disas.Decode(w); x != k.read(w) || e != api.OK {
				t.Fatalf("Decode(%08x), asked again: %+v, %v", w, x, e)
			}
		}
	}
}

// TestDecodeNumbers (P3.1): all numbers of 12 and of 13 bits, all shifts, all large ones and all ways of a jump.
func TestDecodeNumbers(t *testing.T) {
	for _, k := range known {
		if k.op == api.InLui || k.op == api.InJal {
			for v := range uint32(1 << 20) {
				sameAsFound(t, v<<12|k.same)
			}
			continue
		}
		for v := range uint32(1 << 12) {
			sameAsFound(t, v&31<<7|v>>5<<25|k.same)
			sameAsFound(t, v<<20|k.same)
		}
	}
}

// TestDecodeNamed (P3.1): words of instructions of other machines, and of none, are refused.
func TestDecodeNamed(t *testing.T) {
	if api.ErrForm != 7 {
		t.Error(api.ErrForm)
	}
	for _, w := range []uint32{
		0, 0xffffffff, 1, 0x33 >> 1, 0x00000032, 0x00000031, 0x00000030, // bits of the code
		0x20000033, 0x40001033, 0x40002033, 0x40007033, 0x60000033, 0x80000033, 0x42000033, // f7 of none
		0x02001033, 0x02002033, 0x02004033, 0x02006033, 0x04000033, // mulh, mulhsu, div, rem
		0x00002013, 0x40001013, 0x04001013, 0x44005013, 0x80005013, 0x20005013, // slti; shifts with another f7
		0x00000003, 0x00001003, 0x00002003, 0x00005003, 0x00006003, 0x00007003, // other loads
		0x00001023, 0x00002023, 0x00004023, 0x00007023, // other stores
		0x00002063, 0x00003063, 0x00004063, 0x00005063, // other branches
		0x00001067, 0x00007067, // jalr with an f3
		0x00100073, 0x000000f3, 0x00008073, 0x00001073, 0x80000073, 0x30200073, // ecall with something
		0x00000017, 0x0000000f, 0x0000001b, 0x0000003b, 0x0000007f, 0x0000002f, // codes of none
	} {
		if x, e := disas.Decode(w); x != (api.Insn{}) || e != api.ErrForm {
			t.Errorf("Decode(%08x): %+v, %v", w, x, e)
		}
	}
}

// TestDecodeRefused (P3.1): all codes with all f3 and f7: no word beside those of the Ops has an instruction.
func TestDecodeRefused(t *testing.T) {
	for k := range uint32(1 << 17) {
		w := k&127 | k>>7&7<<12 | k>>10<<25
		sameAsFound(t, w)
		sameAsFound(t, w|9<<7|21<<15|30<<20)
	}
}

// TestDecodeScattered (P3.1): words of any kind.
func TestDecodeScattered(t *testing.T) {
	for _, w := range fills() {
		sameAsFound(t, w)
		for code := range uint32(128) {
			sameAsFound(t, w&^127|code)
		}
	}
}

// TestAllTold (P3.2): the words of a text, in order; none of a text without bytes.
func TestAllTold(t *testing.T) {
	var words []uint32
	var want []api.Insn
	for n := 0; ; n++ {
		if l, e := disas.All(bytesOf(words...)); !slices.Equal(l, want) || e != api.OK {
			t.Errorf("All of %d words: %+v, %v, not %+v", n, l, e, want)
		}
		if n == len(one()) {
			break
		}
		words, want = append(words, one()[n].w), append(want, one()[n].x)
	}
	lui, addi := api.Insn{Op: api.InLui, Rd: 10, Imm: 4096}, api.Insn{Op: api.InAddi, Rd: 1, Imm: -1}
	if l, e := disas.All("\x37\x15\x00\x00\x93\x00\xf0\xff\x37\x15\x00\x00"); !slices.Equal(l, []api.Insn{lui, addi, lui}) || e != api.OK {
		t.Errorf("All: %+v, %v", l, e)
	}
}

// TestAllOwn (P3.2): what was answered is not answered again where it was changed.
func TestAllOwn(t *testing.T) {
	s := bytesOf(0x00000073, 0xfff00093)
	first, _ := disas.All(s)
	kept := slices.Clone(first)
	clear(first)
	if l, e := disas.All(s); !slices.Equal(l, kept) || e != api.OK {
		t.Errorf("All: %+v, %v, not %+v", l, e, kept)
	}
}

// TestAllRefused (P3.2): ErrForm, and nothing, where bytes are over, or one word is no instruction's.
func TestAllRefused(t *testing.T) {
	fine := bytesOf(0xfff00093, 0x00000073, 0x402081b3, 0x00000073)
	texts := []string{"\x00", "\x73\x00\x00", "\x73\x00\x00\x00\x73", strings.Repeat("\xff", 4), strings.Repeat("\x00", 4), bytesOf(0x00100073)}
	for n := range len(fine) {
		if n%4 != 0 {
			texts = append(texts, fine[:n], fine[n:])
		} else {
			texts = append(texts, fine[:n]+"\x00\x00\x00\x00"+fine[n:], fine[:n]+bytesOf(0x00002013)+fine[n+4:], fine[:n]+"\x73"+fine[n:])
		}
	}
	texts = append(texts, fine+"\x73", fine+"\xff\xff\xff\xff", strings.Repeat(fine, 1000)+"\x00\x00\x00\x00", strings.Repeat(fine, 1000)+"\x00")
	for _, s := range texts {
		if l, e := disas.All(s); len(l) != 0 || e != api.ErrForm {
			t.Errorf("All of %d bytes: %d instructions, %v", len(s), len(l), e)
		}
	}
}

// TestTextTold (P3.2): the texts of one instruction of each Op at least, written out by hand.
func TestTextTold(t *testing.T) {
	for _, o := range one() {
		if s := disas.Text(o.x); s != o.text {
			t.Errorf("Text(%+v): %q, not %q", o.x, s, o.text)
		}
	}
}

// TestTextRegisters (P3.2): each register's number, in each place.
func TestTextRegisters(t *testing.T) {
	digits := strings.Fields("x0 x1 x2 x3 x4 x5 x6 x7 x8 x9 x10 x11 x12 x13 x14 x15 x16 x17 x18 x19 x20 x21 x22 x23 x24 x25 x26 x27 x28 x29 x30 x31")
	for r, d := range digits {
		for _, x := range []struct {
			in   api.Insn
			want string
		}{
			{api.Insn{Op: api.InAdd, Rd: uint8(r), Rs1: 1, Rs2: 2}, "add " + d + " x1 x2"},
			{api.Insn{Op: api.InAdd, Rd: 1, Rs1: uint8(r), Rs2: 2}, "add x1 " + d + " x2"},
			{api.Insn{Op: api.InAdd, Rd: 1, Rs1: 2, Rs2: uint8(r)}, "add x1 x2 " + d},
			{api.Insn{Op: api.InSb, Rs1: uint8(r), Rs2: 31, Imm: -10}, "sb " + d + " x31 -10"},
		} {
			if s := disas.Text(x.in); s != x.want {
				t.Errorf("Text(%+v): %q, not %q", x.in, s, x.want)
			}
		}
	}
}

// TestTextNone (P3.2): what has no word is told by a question mark.
func TestTextNone(t *testing.T) {
	l := []api.Insn{
		{}, {Rd: 1}, {Op: api.InAddi, Rs2: 1}, {Op: api.InAddi, Imm: 2048}, {Op: api.InAddi, Imm: -2049}, {Op: api.InAdd, Rd: 32}, {Op: api.InAdd, Rs1: 255},
		{Op: api.InAdd, Imm: 1}, {Op: api.InSlli, Imm: 64}, {Op: api.InSlli, Imm: -1}, {Op: api.InBeq, Imm: 3}, {Op: api.InBeq, Rd: 1}, {Op: api.InBeq, Imm: 4096},
		{Op: api.InSd, Rd: 1}, {Op: api.InJal, Rs1: 1}, {Op: api.InJal, Imm: 1 << 20}, {Op: api.InLui, Imm: 1}, {Op: api.InLui, Imm: 1 << 31}, {Op: api.InEcall, Rd: 1},
	}
	for op := 35; op < 256; op++ {
		l = append(l, api.Insn{Op: uint8(op)}, api.Insn{Op: uint8(op), Rd: 1, Rs1: 2, Rs2: 3, Imm: 4})
	}
	for _, x := range l {
		if s := disas.Text(x); s != "?" {
			t.Errorf("Text(%+v): %q", x, s)
		}
	}
}

// TestThereAndBack (P3.3): what was encoded is decoded, what is decoded is encoded, and so are all of a text.
func TestThereAndBack(t *testing.T) {
	var words []uint32
	var all []api.Insn
	for _, k := range known {
		for _, f := range fills() {
			x := k.read(f)
			w, e := insn.Encode(x)
			if e != api.OK {
				t.Fatalf("Encode(%+v): %v", x, e)
			}
			if y, e := disas.Decode(w); y != x || e != api.OK {
				t.Fatalf("%+v, as %08x, is decoded as %+v, %v", x, w, y, e)
			}
			words, all = append(words, w), append(all, x)
		}
	}
	for _, f := range fills() {
		if x, e := disas.Decode(f); e == api.OK {
			if w, e := insn.Encode(x); w != f || e != api.OK {
				t.Fatalf("%08x, as %+v, is encoded as %08x, %v", f, x, w, e)
			}
		}
	}
	s, e := insn.All(all)
	if e != api.OK || s != bytesOf(words...) {
		t.Fatalf("All of %d instructions: %d bytes, %v", len(all), len(s), e)
	}
	if l, e := disas.All(s); !slices.Equal(l, all) || e != api.OK {
		t.Fatalf("All of %d bytes: %d instructions, %v", len(s), len(l), e)
	}
}

// TestTextUnlike (P3.3): no two instructions that have words have one text.
func TestTextUnlike(t *testing.T) {
	has := map[string]api.Insn{}
	for _, k := range known {
		for _, f := range fills() {
			x := k.read(f)
			s := disas.Text(x)
			if y, ok := has[s]; s == "?" || ok && y != x {
				t.Fatalf("%q is the text of %+v and of %+v", s, x, y)
			}
			has[s] = x
		}
	}
}
