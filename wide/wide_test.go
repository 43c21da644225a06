package wide_test

import (
	"math"
	"math/big"
	"slices"
	"testing"

	"apportion/api"
	"apportion/wide"
)

const (
	least    = math.MinInt
	greatest = math.MaxInt
	half     = 1 << 62
)

// edges are ints at which something turns over: signs, halves, words of 32 and of 64 bits.
func edges() []int {
	return []int{least, least + 1, -half - 1, -half, -half + 1, -(1 << 32) - 1, -1 << 32, -(1 << 32) + 1, -7, -5, -3, -2, -1, 0, 1, 2, 3, 4, 6, 7, 1<<31 - 1, 1<<32 - 1, 1 << 32, 1<<32 + 1, half - 1, half, half + 1, greatest - 1, greatest}
}

// fewEdges are for loops over four of them.
func fewEdges() []int {
	return []int{least, least + 1, -half, -1 << 32, -2, -1, 0, 1, 3, 1<<32 + 1, half, greatest - 1, greatest}
}

func number(n int) *big.Int { return big.NewInt(int64(n)) }

func product(a, b int) *big.Int { return new(big.Int).Mul(number(a), number(b)) }

// answer is what a call ought to answer whose exact result is n.
func answer(n *big.Int) (int, api.Errno) {
	if !n.IsInt64() {
		return 0, api.ErrRange
	}
	return int(n.Int64()), api.OK
}

// floorOf returns the greatest integer that is at most a * b / c, what is left of it, and the size of c.
func floorOf(a, b, c int) (quotient, rest, size *big.Int) {
	p, d := product(a, b), number(c)
	if d.Sign() < 0 {
		p.Neg(p)
		d.Neg(d)
	}
	quotient, rest = new(big.Int).DivMod(p, d, new(big.Int))
	return quotient, rest, d
}

func exactFloor(a, b, c int) (int, api.Errno) {
	if c == 0 {
		return 0, api.ErrArg
	}
	quotient, _, _ := floorOf(a, b, c)
	return answer(quotient)
}

func exactEven(a, b, c int) (int, api.Errno) {
	if c == 0 {
		return 0, api.ErrArg
	}
	quotient, rest, size := floorOf(a, b, c)
	side := new(big.Int).Lsh(rest, 1).Cmp(size)
	if side > 0 || side == 0 && quotient.Bit(0) == 1 {
		quotient.Add(quotient, big.NewInt(1))
	}
	return answer(quotient)
}

func exactSum(l []int) (int, api.Errno) {
	total := new(big.Int)
	for _, n := range l {
		total.Add(total, number(n))
	}
	return answer(total)
}

func TestMulExamples(t *testing.T) {
	for _, x := range []struct {
		a, b      int
		high, low uint64
		sign      int
	}{
		{half, -8, 2, 0, -1},
		{0, 5, 0, 0, 0},
		{-5, 0, 0, 0, 0},
		{3, 4, 0, 12, 1},
		{-3, -4, 0, 12, 1},
		{least, 1, 0, 1 << 63, -1},
		{least, least, 1 << 62, 0, 1},
		{greatest, least, 1<<62 - 1, 1 << 63, -1},
		{greatest, greatest, 1<<62 - 1, 1, 1},
	} {
		high, low, sign := wide.Mul(x.a, x.b)
		if high != x.high || low != x.low || sign != x.sign {
			t.Errorf("Mul(%d, %d) = %d, %d, %d", x.a, x.b, high, low, sign)
		}
	}
}

func TestMulIsTheProduct(t *testing.T) {
	for _, a := range edges() {
		for _, b := range edges() {
			high, low, sign := wide.Mul(a, b)
			got := new(big.Int).SetUint64(high)
			got.Lsh(got, 64).Add(got, new(big.Int).SetUint64(low))
			want := product(a, b)
			if sign != want.Sign() || got.CmpAbs(want) != 0 {
				t.Errorf("Mul(%d, %d) = %d, %d, %d", a, b, high, low, sign)
			}
		}
	}
}

func TestSignExamples(t *testing.T) {
	for _, x := range []struct{ a, b, c, d, want int }{
		{3, 4, 2, 6, 0},
		{half, half, half, half - 1, 1},
		{half, half - 1, half, half, -1},
		{-1, 1, 0, 0, -1},
		{0, 0, -1, 1, 1},
		{0, 7, 9, 0, 0},
		{-2, 3, -3, 3, 1},
		{-3, 3, -2, 3, -1},
		{-half, half, half, -half + 1, -1},
		{-1, 1, 1, 1, -1},
		{least, least, least, greatest, 1},
	} {
		if got := wide.Sign(x.a, x.b, x.c, x.d); got != x.want {
			t.Errorf("Sign(%d, %d, %d, %d) = %d", x.a, x.b, x.c, x.d, got)
		}
	}
}

func TestSignIsThatOfTheDifference(t *testing.T) {
	for _, a := range fewEdges() {
		for _, b := range fewEdges() {
			for _, c := range fewEdges() {
				for _, d := range fewEdges() {
					got, want := wide.Sign(a, b, c, d), product(a, b).Cmp(product(c, d))
					if got != want {
						t.Fatalf("Sign(%d, %d, %d, %d) = %d", a, b, c, d, got)
					}
					if wide.Sign(c, d, a, b) != -want {
						t.Fatalf("exchanging the products of Sign(%d, %d, %d, %d) does not reverse it", a, b, c, d)
					}
					if wide.Sign(b, a, d, c) != want {
						t.Fatalf("exchanging the factors of Sign(%d, %d, %d, %d) changes it", a, b, c, d)
					}
				}
			}
		}
	}
}

type rounding struct {
	a, b, c    int
	even       int
	evenError  api.Errno
	floor      int
	floorError api.Errno
}

func roundings() []rounding {
	return []rounding{
		{5, 1, 2, 2, api.OK, 2, api.OK},
		{7, 1, 2, 4, api.OK, 3, api.OK},
		{-5, 1, 2, -2, api.OK, -3, api.OK},
		{-7, 1, 2, -4, api.OK, -4, api.OK},
		{5, 1, -2, -2, api.OK, -3, api.OK},
		{-5, -1, -2, -2, api.OK, -3, api.OK},
		{-5, 1, -2, 2, api.OK, 2, api.OK},
		{1, 1, 2, 0, api.OK, 0, api.OK},
		{-1, 1, 2, 0, api.OK, -1, api.OK},
		{1, 1, 3, 0, api.OK, 0, api.OK},
		{-1, 1, 3, 0, api.OK, -1, api.OK},
		{2, 1, 3, 1, api.OK, 0, api.OK},
		{0, 5, -7, 0, api.OK, 0, api.OK},
		{half, 8, 16, half / 2, api.OK, half / 2, api.OK},
		{1, 1, 0, 0, api.ErrArg, 0, api.ErrArg},
		{0, 0, 0, 0, api.ErrArg, 0, api.ErrArg},
		{least, least, 0, 0, api.ErrArg, 0, api.ErrArg},
		{half, 4, 1, 0, api.ErrRange, 0, api.ErrRange},
		{half, 2, 1, 0, api.ErrRange, 0, api.ErrRange},
		{-half, 2, 1, least, api.OK, least, api.OK},
		{least, 1, -1, 0, api.ErrRange, 0, api.ErrRange},
		{least, -1, -1, least, api.OK, least, api.OK},
		{greatest, least, least, greatest, api.OK, greatest, api.OK},
		{1, 1, least, 0, api.OK, -1, api.OK},
		{-half, 1, least, 0, api.OK, 0, api.OK},
		{-half - 1, 1, least, 1, api.OK, 0, api.OK},
		// 2^63 - 1/2: half-way between the greatest int and what is none.
		{1<<32 - 1, 1<<32 + 1, 2, 0, api.ErrRange, greatest, api.OK},
		{-(1<<32 - 1), 1<<32 + 1, 2, least, api.OK, least, api.OK},
		// 2^63 + 1/2: half-way between the least int's size and what is none.
		{-274177, 67280421310721, 2, least, api.OK, 0, api.ErrRange},
		{274177, 67280421310721, 2, 0, api.ErrRange, 0, api.ErrRange},
		// 2^64 - 1/2: rounded up it no longer has 64 bits.
		{253921, 145295143558111, 2, 0, api.ErrRange, 0, api.ErrRange},
		{-253921, 145295143558111, 2, 0, api.ErrRange, 0, api.ErrRange},
		{least, least, 1, 0, api.ErrRange, 0, api.ErrRange},
	}
}

func TestRoundingExamples(t *testing.T) {
	for _, x := range roundings() {
		if n, e := wide.Even(x.a, x.b, x.c); n != x.even || e != x.evenError {
			t.Errorf("Even(%d, %d, %d) = %d, %v", x.a, x.b, x.c, n, e)
		}
		if n, e := wide.Floor(x.a, x.b, x.c); n != x.floor || e != x.floorError {
			t.Errorf("Floor(%d, %d, %d) = %d, %v", x.a, x.b, x.c, n, e)
		}
	}
}

func TestRoundingIsExact(t *testing.T) {
	for _, a := range edges() {
		for _, b := range edges() {
			for _, c := range edges() {
				checkRounding(t, a, b, c)
			}
		}
	}
	for a := -40; a <= 40; a++ {
		for c := -20; c <= 20; c++ {
			checkRounding(t, a, 1, c)
		}
	}
}

func checkRounding(t *testing.T, a, b, c int) {
	t.Helper()
	want, wantError := exactEven(a, b, c)
	if n, e := wide.Even(a, b, c); n != want || e != wantError {
		t.Errorf("Even(%d, %d, %d) = %d, %v, not %d, %v", a, b, c, n, e, want, wantError)
	}
	want, wantError = exactFloor(a, b, c)
	if n, e := wide.Floor(a, b, c); n != want || e != wantError {
		t.Errorf("Floor(%d, %d, %d) = %d, %v, not %d, %v", a, b, c, n, e, want, wantError)
	}
}

func TestRoundingTheorems(t *testing.T) {
	for _, a := range edges() {
		for _, b := range edges() {
			for _, c := range edges() {
				checkEvenNextToFloor(t, a, b, c)
				checkNegation(t, a, b, c)
			}
		}
	}
}

func checkEvenNextToFloor(t *testing.T, a, b, c int) {
	t.Helper()
	even, evenError := wide.Even(a, b, c)
	floor, floorError := wide.Floor(a, b, c)
	if evenError != api.OK || floorError != api.OK {
		return
	}
	divides := new(big.Int).Rem(product(a, b), number(c)).Sign() == 0
	if even != floor && (divides || even != floor+1) {
		t.Errorf("Even(%d, %d, %d) = %d, Floor = %d", a, b, c, even, floor)
	}
	if divides && product(floor, c).Cmp(product(a, b)) != 0 {
		t.Errorf("Floor(%d, %d, %d) = %d, which is not the quotient", a, b, c, floor)
	}
}

func checkNegation(t *testing.T, a, b, c int) {
	t.Helper()
	if a == least {
		return
	}
	n, e := wide.Even(a, b, c)
	if e != api.OK || n == least {
		return
	}
	if m, e := wide.Even(-a, b, c); m != -n || e != api.OK {
		t.Errorf("Even(%d, %d, %d) = %d, %v, not %d", -a, b, c, m, e, -n)
	}
}

func TestAdd(t *testing.T) {
	if n, e := wide.Add(half, half); n != 0 || e != api.ErrRange {
		t.Errorf("Add(2^62, 2^62) = %d, %v", n, e)
	}
	for _, a := range edges() {
		for _, b := range edges() {
			want, wantError := exactSum([]int{a, b})
			if n, e := wide.Add(a, b); n != want || e != wantError {
				t.Errorf("Add(%d, %d) = %d, %v, not %d, %v", a, b, n, e, want, wantError)
			}
		}
	}
}

func TestSumExamples(t *testing.T) {
	for _, x := range []struct {
		l         []int
		want      int
		wantError api.Errno
	}{
		{nil, 0, api.OK},
		{[]int{}, 0, api.OK},
		{[]int{-9}, -9, api.OK},
		{[]int{least}, least, api.OK},
		{[]int{greatest}, greatest, api.OK},
		{[]int{half, half, -half}, half, api.OK},
		{[]int{-half, -half, -half, half}, least, api.OK},
		{[]int{greatest, 1}, 0, api.ErrRange},
		{[]int{least, -1}, 0, api.ErrRange},
		{[]int{greatest, greatest, least, least}, -2, api.OK},
		{[]int{greatest, greatest, greatest, least, least}, greatest - 2, api.OK},
		{[]int{least, least}, 0, api.ErrRange},
		{[]int{half, half, half, half}, 0, api.ErrRange},
		{[]int{-1, -1, 1}, -1, api.OK},
	} {
		if n, e := wide.Sum(x.l); n != x.want || e != x.wantError {
			t.Errorf("Sum(%v) = %d, %v", x.l, n, e)
		}
	}
}

func TestSumOfManyThatWrapRound(t *testing.T) {
	for _, n := range []int{least, greatest, half} {
		l := slices.Repeat([]int{n}, 1024)
		if got, e := wide.Sum(l); got != 0 || e != api.ErrRange {
			t.Errorf("Sum(1024 times %d) = %d, %v", n, got, e)
		}
		for range 1024 {
			l = append(l, -1-n)
		}
		if got, e := wide.Sum(l); got != -1024 || e != api.OK {
			t.Errorf("Sum(1024 times %d and its complement) = %d, %v", n, got, e)
		}
	}
}

func TestSumInAnyOrder(t *testing.T) {
	for _, a := range fewEdges() {
		for _, b := range fewEdges() {
			for _, c := range fewEdges() {
				want, wantError := exactSum([]int{a, b, c})
				for _, l := range [][]int{{a, b, c}, {a, c, b}, {b, a, c}, {b, c, a}, {c, a, b}, {c, b, a}} {
					if n, e := wide.Sum(l); n != want || e != wantError {
						t.Fatalf("Sum(%v) = %d, %v, not %d, %v", l, n, e, want, wantError)
					}
				}
			}
		}
	}
}

func TestSumLeavesItsListAsItWas(t *testing.T) {
	l := []int{3, half, half, -half, 9}[:4]
	before := slices.Clone(l[:5])
	wide.Sum(l)
	if !slices.Equal(l[:5], before) {
		t.Errorf("Sum changed its list: %v", l[:5])
	}
}
