package impl

import (
	"strconv"
	"strings"
)

const (
	MaxMoney  = 1000000000
	MaxRate   = 10000
	MaxShares = 60
	MaxWeight = 1000000
)

const (
	RdDown = iota + 1
	RdUp
	RdEven
	RdAway
)

const (
	maxStep  = 1000
	maxWhole = 15 // digits ahead of the point of an amount's text
)

type Rate struct{ N, D int }

// quotient is floor + rest / den with rest from 0 to den - 1: whole numbers alone, below 0 too.
type quotient struct{ floor, rest, den int }

// rounding says by up whether a quotient goes to the whole number behind its floor.
type rounding struct {
	up func(q quotient) bool
}

func roundings() [RdAway + 1]rounding {
	return [RdAway + 1]rounding{
		RdDown: {up: func(q quotient) bool { return false }},
		RdUp:   {up: func(q quotient) bool { return q.rest > 0 }},
		RdEven: {up: func(q quotient) bool { return q.nearerUp(q.floor%2 != 0) }},
		RdAway: {up: func(q quotient) bool { return q.nearerUp(q.floor >= 0) }},
	}
}

func modeOK(mode int) bool { return mode >= RdDown && mode <= RdAway }

// divide takes a den above 0 only.
func divide(num, den int) quotient {
	floor, rest := num/den, num%den
	if rest < 0 {
		floor, rest = floor-1, rest+den
	}
	return quotient{floor: floor, rest: rest, den: den}
}

func (q quotient) nearerUp(halfUp bool) bool {
	return 2*q.rest > q.den || 2*q.rest == q.den && halfUp
}

func (q quotient) rounded(r rounding) int {
	if r.up(q) {
		return q.floor + 1
	}
	return q.floor
}

func amountOK(amount int) bool { return amount >= -MaxMoney && amount <= MaxMoney }

func asAmount(n int) (int, int) {
	if !amountOK(n) {
		return 0, ErrOver
	}
	return n, OK
}

func signed(size int, below bool) int {
	if below {
		return -size
	}
	return +size
}

func sizeOf(amount int) int { return signed(amount, amount < 0) }

func RateOK(r Rate) bool {
	return r.N >= 0 && r.N <= MaxRate && r.D >= 1 && r.D <= MaxRate
}

func Part(amount int, r Rate, mode int) (int, int) {
	if !amountOK(amount) || !RateOK(r) {
		return 0, ErrBad
	}
	if !modeOK(mode) {
		return 0, ErrKind
	}
	return asAmount(divide(amount*r.N, r.D).rounded(roundings()[mode]))
}

func Exchange(amount int, from, to Rate, mode int) (int, int) {
	if !amountOK(amount) || !RateOK(from) || !RateOK(to) {
		return 0, ErrBad
	}
	if !modeOK(mode) {
		return 0, ErrKind
	}
	if to.N == 0 {
		return 0, ErrZero
	}
	// At most 10 to the 17, so that one division of 64 bits does: it is rounded once.
	return asAmount(divide(amount*from.N*to.D, from.D*to.N).rounded(roundings()[mode]))
}

func weightsOK(weights []int) bool {
	for _, w := range weights {
		if w < 0 || w > MaxWeight {
			return false
		}
	}
	return len(weights) >= 1 && len(weights) <= MaxShares
}

func Share(amount int, weights []int) ([]int, int) {
	if len(weights) > MaxList {
		return nil, ErrLong
	}
	if !amountOK(amount) || !weightsOK(weights) {
		return nil, ErrBad
	}
	sum := 0
	for _, w := range weights {
		sum += w
	}
	if sum == 0 {
		return nil, ErrZero
	}
	parts := shareSize(sizeOf(amount), weights, sum)
	for i, part := range parts {
		parts[i] = signed(part, amount < 0)
	}
	return parts, OK
}

func shareSize(size int, weights []int, sum int) []int {
	parts, rests := make([]int, len(weights)), make([]int, len(weights))
	left := size
	for i, w := range weights {
		q := divide(size*w, sum)
		parts[i], rests[i] = q.floor, q.rest
		left -= q.floor
	}
	// What is left is the rests by sum: fewer than there are rests above 0, so that no part is due twice.
	for ; left > 0; left-- {
		at := firstGreatest(rests)
		parts[at]++
		rests[at] = 0
	}
	return parts
}

func firstGreatest(list []int) int {
	at := 0
	for i, n := range list {
		if n > list[at] {
			at = i
		}
	}
	return at
}

func Cash(amount, step int) (int, int) {
	if !amountOK(amount) {
		return 0, ErrBad
	}
	if step < 1 || step > maxStep {
		return 0, ErrRange
	}
	toNought := rounding{up: func(q quotient) bool { return q.nearerUp(q.floor < 0) }}
	return asAmount(step * divide(amount, step).rounded(toNought))
}

func MoneyText(amount int) (string, int) {
	if !amountOK(amount) {
		return "", ErrBad
	}
	sign := ""
	if amount < 0 {
		sign = "-"
	}
	size := sizeOf(amount)
	cents := size % 100
	return sign + strconv.Itoa(size/100) + "." + strconv.Itoa(cents/10) + strconv.Itoa(cents%10), OK
}

func ReadMoney(t string) (int, int) {
	if len(t) > MaxText {
		return 0, ErrLong
	}
	text, below := strings.CutPrefix(t, "-")
	whole, cents, pointed := strings.Cut(text, ".")
	if !pointed || !wholeText(whole, maxWhole) || len(cents) != 2 || !allDigits(cents) {
		return 0, ErrSyntax
	}
	size := 100*digitsNumber(whole) + digitsNumber(cents)
	if below && size == 0 {
		return 0, ErrSyntax
	}
	return asAmount(signed(size, below))
}
