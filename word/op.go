package word

import (
	"math/bits"

	"sacristy/api"
)

// rule is what an instruction of two registers makes of a and b.
type rule struct {
	makes func(a, b uint64) uint64
}

// rules has the rule of each instruction of two registers, by its number.
func rules() [api.InRemu + 1]rule {
	return [...]rule{
		api.InAdd:   {func(a, b uint64) uint64 { return a + b }},
		api.InSub:   {func(a, b uint64) uint64 { return a - b }},
		api.InSll:   {func(a, b uint64) uint64 { return a << (b % 64) }},
		api.InSlt:   {func(a, b uint64) uint64 { return truth(int64(a) < int64(b)) }},
		api.InSltu:  {func(a, b uint64) uint64 { return truth(a < b) }},
		api.InXor:   {func(a, b uint64) uint64 { return a ^ b }},
		api.InSrl:   {func(a, b uint64) uint64 { return a >> (b % 64) }},
		api.InSra:   {func(a, b uint64) uint64 { return uint64(int64(a) >> (b % 64)) }},
		api.InOr:    {func(a, b uint64) uint64 { return a | b }},
		api.InAnd:   {func(a, b uint64) uint64 { return a & b }},
		api.InMul:   {func(a, b uint64) uint64 { return a * b }},
		api.InMulhu: {higher},
		api.InDivu:  {quotient},
		api.InRemu:  {rest},
	}
}

// Op is what the instruction fn of two registers makes of a and b.
func Op(fn uint8, a, b uint64) (uint64, api.Errno) {
	if fn < api.InAdd || fn > api.InRemu {
		return 0, api.ErrArg
	}
	return rules()[fn].makes(a, b), api.OK
}

func truth(is bool) uint64 {
	if is {
		return 1
	}
	return 0
}

func higher(a, b uint64) uint64 {
	high, _ := bits.Mul64(a, b)
	return high
}

// The machine divides by 0 without a trap: quotient and rest answer numbers of their own then.

func quotient(a, b uint64) uint64 {
	if b == 0 {
		return ^uint64(0)
	}
	return a / b
}

func rest(a, b uint64) uint64 {
	if b == 0 {
		return a
	}
	return a % b
}
