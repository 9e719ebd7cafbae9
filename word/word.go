// Package word reckons with integers of so many bits. Its chapter: shared/doc/01-word.md.
package word

import (
	"math"
	"strconv"

	"spokeshave/api"
)

var widths = [8]api.Width{
	{Bits: 8, Signed: true}, {Bits: 8},
	{Bits: 16, Signed: true}, {Bits: 16},
	{Bits: 32, Signed: true}, {Bits: 32},
	{Bits: 64, Signed: true}, {Bits: 64},
}

// May tells whether w is one of the widths that may be.
func May(w api.Width) bool {
	for i := range widths {
		if w == widths[i] {
			return true
		}
	}
	return false
}

// Wrap answers the number of w that n's lowest bits are.
func Wrap(w api.Width, n int64) int64 {
	switch w {
	case api.Width{Bits: 8, Signed: true}:
		return int64(int8(n))
	case api.Width{Bits: 8}:
		return int64(uint8(n))
	case api.Width{Bits: 16, Signed: true}:
		return int64(int16(n))
	case api.Width{Bits: 16}:
		return int64(uint16(n))
	case api.Width{Bits: 32, Signed: true}:
		return int64(int32(n))
	case api.Width{Bits: 32}:
		return int64(uint32(n))
	case api.Width{Bits: 64, Signed: true}, api.Width{Bits: 64}:
		return n
	}
	return 0
}

// Is tells whether n is a number of w.
func Is(w api.Width, n int64) bool { return May(w) && Wrap(w, n) == n }

// Promote answers the width that w is reckoned in.
func Promote(w api.Width) api.Width {
	if w.Bits < 32 {
		return api.Width{Bits: 32, Signed: true}
	}
	return w
}

// Usual answers the width that both are reckoned in.
func Usual(a api.Width, b api.Width) api.Width {
	if !May(a) || !May(b) {
		return api.Width{}
	}
	a, b = Promote(a), Promote(b)
	switch {
	case a == b || a.Bits > b.Bits:
		return a
	case b.Bits > a.Bits:
		return b
	}
	return api.Width{Bits: a.Bits}
}

func reckons(w api.Width) bool { return May(w) && w.Bits >= 32 }

// Binary reckons in w; false, if what is asked for is undefined.
func Binary(w api.Width, sub int, a int64, b int64) (int64, bool) {
	if !reckons(w) {
		return 0, false
	}
	a = Wrap(w, a)
	if sub == api.Shl || sub == api.Shr || sub == api.Sar {
		return shift(w, sub, a, b)
	}
	b = Wrap(w, b)
	switch sub {
	case api.Add, api.Sub, api.Mul:
		return ring(w, sub, a, b)
	case api.Div, api.UDiv:
		return divide(w, false, a, b)
	case api.Mod, api.UMod:
		return divide(w, true, a, b)
	case api.And, api.Or, api.Xor, api.Eq, api.Ne:
		return Plain(sub, a, b)
	case api.Lt, api.ULt:
		return Plain(bySign(w, api.Lt, api.ULt), a, b)
	case api.Le, api.ULe:
		return Plain(bySign(w, api.Le, api.ULe), a, b)
	}
	return 0, false
}

func bySign(w api.Width, signed int, unsigned int) int {
	if w.Signed {
		return signed
	}
	return unsigned
}

func ring(w api.Width, sub int, a int64, b int64) (int64, bool) {
	n, _ := Plain(sub, a, b)
	if !w.Signed {
		return Wrap(w, n), true
	}
	if w.Bits == 64 && leaves64(sub, a, b, n) || !Is(w, n) {
		return 0, false
	}
	return n, true
}

// leaves64 tells whether n, reckoned modulo 2^64, is not the true answer.
func leaves64(sub int, a int64, b int64, n int64) bool {
	switch sub {
	case api.Add:
		return (b >= 0) != (n >= a)
	case api.Sub:
		return (b >= 0) != (n <= a)
	}
	if a == 0 || b == 0 {
		return false
	}
	if a == -1 || b == -1 {
		return a == math.MinInt64 || b == math.MinInt64
	}
	return n/b != a
}

func divide(w api.Width, rest bool, a int64, b int64) (int64, bool) {
	if w.Signed && b == -1 {
		n, ok := Negate(w, a)
		if rest {
			n = 0
		}
		return n, ok
	}
	if rest {
		return Plain(bySign(w, api.Mod, api.UMod), a, b)
	}
	return Plain(bySign(w, api.Div, api.UDiv), a, b)
}

func shift(w api.Width, sub int, a int64, b int64) (int64, bool) {
	if b < 0 || b >= int64(w.Bits) {
		return 0, false
	}
	if sub != api.Shl {
		return Plain(bySign(w, api.Sar, api.Shr), a, b)
	}
	n := Wrap(w, a<<uint(b))
	if w.Signed && (a < 0 || n>>uint(b) != a) {
		return 0, false
	}
	return n, true
}

// Negate answers 0 less a.
func Negate(w api.Width, a int64) (int64, bool) { return Binary(w, api.Sub, 0, a) }

// Invert answers a with all its bits turned.
func Invert(w api.Width, a int64) int64 {
	if !reckons(w) {
		return 0
	}
	return Wrap(w, ^a)
}

// Plain reckons as the middle language does, in 64 bits.
func Plain(sub int, a int64, b int64) (int64, bool) {
	u, v := uint64(a), uint64(b)
	switch sub {
	case api.Add:
		return a + b, true
	case api.Sub:
		return a - b, true
	case api.Mul:
		return a * b, true
	case api.Div, api.Mod, api.UDiv, api.UMod:
		return plainDivide(sub, a, b)
	case api.And:
		return a & b, true
	case api.Or:
		return a | b, true
	case api.Xor:
		return a ^ b, true
	case api.Shl:
		return a << (v & 63), true
	case api.Shr:
		return int64(u >> (v & 63)), true
	case api.Sar:
		return a >> (v & 63), true
	case api.Eq:
		return truth(a == b), true
	case api.Ne:
		return truth(a != b), true
	case api.Lt:
		return truth(a < b), true
	case api.Le:
		return truth(a <= b), true
	case api.ULt:
		return truth(u < v), true
	case api.ULe:
		return truth(u <= v), true
	}
	return 0, false
}

func plainDivide(sub int, a int64, b int64) (int64, bool) {
	if b == 0 {
		return 0, false
	}
	switch sub {
	case api.UDiv:
		return int64(uint64(a) / uint64(b)), true
	case api.UMod:
		return int64(uint64(a) % uint64(b)), true
	}
	if a == math.MinInt64 && b == -1 {
		return 0, false
	}
	if sub == api.Div {
		return a / b, true
	}
	return a % b, true
}

func truth(is bool) int64 {
	if is {
		return 1
	}
	return 0
}

// Text answers w's name.
func Text(w api.Width) string {
	if !May(w) {
		return ""
	}
	if w.Signed {
		return "i" + strconv.Itoa(w.Bits)
	}
	return "u" + strconv.Itoa(w.Bits)
}
