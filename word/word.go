// Package word: numbers of 32 bits. See doc/01-word.md.
package word

import (
	"strconv"

	"hasp/api"
)

// Do answers op of a and b, modulo 2^32.
func Do(op string, a, b uint32) (uint32, error) {
	switch op {
	case "sub":
		b = -b
		fallthrough
	case "add":
		return a + b, nil
	case "mul":
		return a * b, nil
	case "and":
		return a & b, nil
	case "or":
		return a | b, nil
	case "xor":
		return a ^ b, nil
	case "sll":
		return a << (b % 32), nil
	case "srl":
		return a >> (b % 32), nil
	case "sra":
		return uint32(int32(a) >> (b % 32)), nil
	case "slt":
		a, b = raised(a), raised(b)
		fallthrough
	case "sltu":
		return bit(a < b), nil
	case "divu":
		return quotient(a, b), nil
	case "remu":
		return remainder(a, b), nil
	}
	return 0, api.ErrOp
}

// Holds tells whether the branch op is taken for a and b.
func Holds(op string, a, b uint32) (bool, error) {
	switch op {
	case "beq":
		return a == b, nil
	case "bne":
		return a != b, nil
	case "blt":
		a, b = raised(a), raised(b)
		fallthrough
	case "bltu":
		return a < b, nil
	case "bge":
		a, b = raised(a), raised(b)
		fallthrough
	case "bgeu":
		return a >= b, nil
	}
	return false, api.ErrOp
}

// Signed answers the lowest bits of v, the highest of them put to all above.
func Signed(v uint32, bits int) uint32 {
	above := uint(32 - min(max(bits, 1), 32))
	return uint32(int32(v<<above) >> above)
}

// Text answers v as 0x and eight hexadecimal digits.
func Text(v uint32) string {
	digits := strconv.FormatUint(uint64(v), 16)
	return "0x" + "00000000"[len(digits):] + digits
}

// raised moves numbers with a sign up by 2^31: their order is then that of
// numbers without one, so that both kinds share one comparison.
func raised(v uint32) uint32 { return v ^ 1<<31 }

func bit(is bool) uint32 {
	if is {
		return 1
	}
	return 0
}

// quotient answers for b 0 too: the machine's division is never an error.
func quotient(a, b uint32) uint32 {
	if b == 0 {
		return 1<<32 - 1
	}
	return a / b
}

// remainder keeps to it that a is b times the quotient and the remainder,
// for b 0 too.
func remainder(a, b uint32) uint32 {
	if b == 0 {
		return a
	}
	return a % b
}
