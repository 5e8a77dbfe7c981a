package cell_test

import (
	"math"
	"math/big"
	"math/rand/v2"
	"slices"
	"testing"

	"retort/api"
	"retort/cell"
)

// Words of floats, by their bits.
const (
	least    = math.MinInt
	most     = math.MaxInt
	none     = 9221120237041090560
	infinity = 0x7ff << 52
	minus    = math.MinInt // -0, and the sign of each
	greatest = infinity - 1
	normal   = 1 << 52 // the least normal one
	unit     = 0x3ff << 52
)

// Here whole numbers are reckoned as big ones, floats as whole numbers times powers of 2, so that no float of Go's is added, multiplied or compared.

func source(seed uint64) *rand.Rand { return rand.New(rand.NewPCG(seed, 10)) }

func number(a int) *big.Int { return big.NewInt(int64(a)) }

func power(n int) *big.Int { return new(big.Int).Lsh(number(1), uint(n)) }

// unsigned: a word below 0 counts as 2^64 more.
func unsigned(a int) *big.Int { return new(big.Int).Mod(number(a), power(64)) }

// wrap is x modulo 2^64, as a word.
func wrap(x *big.Int) int {
	m := new(big.Int).Mod(x, power(64))
	if m.Cmp(power(63)) >= 0 {
		m.Sub(m, power(64))
	}
	return int(m.Int64())
}

func oneIf(is bool) int {
	if is {
		return 1
	}
	return 0
}

// bitByBit puts a word together out of what f makes of two words' bits.
func bitByBit(a, b int, f func(x, y uint) uint) int {
	w := new(big.Int)
	for i := range 64 {
		w.SetBit(w, i, f(unsigned(a).Bit(i), unsigned(b).Bit(i)))
	}
	return wrap(w)
}

// wantTwo is what the table says of two.
func wantTwo(op, a, b int) (int, api.Trap) {
	x, y := number(a), number(b)
	by := power(int(new(big.Int).Mod(y, number(64)).Int64()))
	switch op {
	case api.IAdd:
		return wrap(x.Add(x, y)), api.TNone
	case api.ISub:
		return wrap(x.Sub(x, y)), api.TNone
	case api.IMul:
		return wrap(x.Mul(x, y)), api.TNone
	case api.IDiv, api.IRem:
		if b == 0 {
			return 0, api.TDivide
		}
		quo, rem := new(big.Int).QuoRem(x, y, new(big.Int))
		if op == api.IDiv {
			return wrap(quo), api.TNone
		}
		return wrap(rem), api.TNone
	case api.IAnd:
		return bitByBit(a, b, func(x, y uint) uint { return x * y }), api.TNone
	case api.IOr:
		return bitByBit(a, b, func(x, y uint) uint { return max(x, y) }), api.TNone
	case api.IXor:
		return bitByBit(a, b, func(x, y uint) uint { return (x + y) % 2 }), api.TNone
	case api.IShl:
		return wrap(x.Mul(x, by)), api.TNone
	case api.IShr:
		return wrap(x.Div(x, by)), api.TNone
	case api.IUshr:
		return wrap(by.Div(unsigned(a), by)), api.TNone
	case api.IEq:
		return oneIf(x.Cmp(y) == 0), api.TNone
	case api.ILt:
		return oneIf(x.Cmp(y) < 0), api.TNone
	case api.IUlt:
		return oneIf(unsigned(a).Cmp(unsigned(b)) < 0), api.TNone
	}
	return wantTwoFloats(op, a, b)
}

func wantTwoFloats(op, a, b int) (int, api.Trap) {
	switch op {
	case api.IFadd:
		return wantSum(a, b), api.TNone
	case api.IFsub:
		return wantSum(a, turned(b)), api.TNone
	case api.IFmul:
		return wantProduct(a, b), api.TNone
	case api.IFdiv:
		return wantQuotient(a, b), api.TNone
	case api.IFeq:
		return oneIf(!isNone(a) && !isNone(b) && distance(a, b).Sign() == 0), api.TNone
	case api.IFlt:
		return oneIf(!isNone(a) && !isNone(b) && distance(a, b).Sign() < 0), api.TNone
	}
	return 0, api.TOp
}

// wantOne is what the table says of one.
func wantOne(op, a int) (int, api.Trap) {
	switch op {
	case api.INeg:
		return wrap(new(big.Int).Neg(number(a))), api.TNone
	case api.INot:
		return bitByBit(a, a, func(x, _ uint) uint { return 1 - x }), api.TNone
	case api.IFneg:
		if isNone(a) {
			return none, api.TNone
		}
		return turned(a), api.TNone
	case api.IFroot:
		return wantRoot(a), api.TNone
	case api.IToF:
		return rounded(number(a), 0, false), api.TNone
	case api.IToI:
		return wantCut(a)
	}
	return 0, api.TOp
}

// isNone: it is not a number.
func isNone(w int) bool { return w&most > infinity }

func isInfinite(w int) bool { return w&most == infinity }

func isZero(w int) bool { return w&most == 0 }

func isBelow(w int) bool { return w < 0 }

func turned(w int) int { return w ^ minus }

// signed is the size of one, with a sign.
func signed(size int, below bool) int {
	if below {
		return size | minus
	}
	return size
}

// scale is 2 to the power by which the least float is one.
const scale = 1074

// units tells how often the least float goes into one that is a number: it goes into each so many times. An infinity counts as 2^1024.
func units(w int) *big.Int {
	m, e := number(w&(normal-1)), w&most>>52
	if e > 0 {
		m.Add(m, number(normal))
		m.Lsh(m, uint(e-1))
	}
	if isBelow(w) {
		m.Neg(m)
	}
	return m
}

// distance is how far a lies above b.
func distance(a, b int) *big.Int { return new(big.Int).Sub(units(a), units(b)) }

// rounded tells the float nearest to x times 2^e, of two as near the even one; beyond: x is not all, there is less than one more of it (x then has at least 60 bits, so that no rounding is lost).
func rounded(x *big.Int, e int, beyond bool) int {
	m := new(big.Int).Abs(x)
	drop := max(m.BitLen()-53, -scale-e)
	if drop <= 0 {
		m.Lsh(m, uint(-drop))
	} else {
		half := power(drop - 1)
		front, low := new(big.Int).DivMod(m, power(drop), new(big.Int))
		c := low.Cmp(half)
		if c > 0 || c == 0 && (beyond || front.Bit(0) == 1) {
			front.Add(front, number(1))
		}
		m = front
	}
	if m.Sign() == 0 {
		return signed(0, x.Sign() < 0)
	}
	if e+drop+scale > 2045 {
		return signed(infinity, x.Sign() < 0)
	}
	return signed(min(infinity, (e+drop+scale)<<52+int(m.Int64())), x.Sign() < 0)
}

func wantSum(a, b int) int {
	switch {
	case isNone(a), isNone(b), isInfinite(a) && isInfinite(b) && a != b:
		return none
	case isInfinite(a):
		return a
	case isInfinite(b):
		return b
	case isZero(a) && a == b:
		return a
	}
	return rounded(new(big.Int).Add(units(a), units(b)), -scale, false)
}

func wantProduct(a, b int) int {
	below := isBelow(a) != isBelow(b)
	switch {
	case isNone(a), isNone(b), isInfinite(a) && isZero(b), isZero(a) && isInfinite(b):
		return none
	case isInfinite(a), isInfinite(b):
		return signed(infinity, below)
	case isZero(a), isZero(b):
		return signed(0, below)
	}
	return rounded(new(big.Int).Mul(units(a), units(b)), -2*scale, false)
}

func wantQuotient(a, b int) int {
	below := isBelow(a) != isBelow(b)
	switch {
	case isNone(a), isNone(b), isInfinite(a) && isInfinite(b), isZero(a) && isZero(b):
		return none
	case isInfinite(a), isZero(b):
		return signed(infinity, below)
	case isZero(a), isInfinite(b):
		return signed(0, below)
	}
	const more = 2400 // so that the quotient has many bits, however small
	quo, rem := new(big.Int).QuoRem(new(big.Int).Lsh(units(a), more), units(b), new(big.Int))
	return rounded(quo, -more, rem.Sign() != 0)
}

func wantRoot(a int) int {
	switch {
	case isZero(a):
		return a
	case isNone(a), isBelow(a):
		return none
	case isInfinite(a):
		return infinity
	}
	const more = 200 // likewise
	x := units(a)
	x.Lsh(x, more)
	root := new(big.Int).Sqrt(x)
	beyond := new(big.Int).Mul(root, root).Cmp(x) != 0
	return rounded(root, -(scale+more)/2, beyond)
}

func wantCut(a int) (int, api.Trap) {
	if isNone(a) {
		return 0, api.TFloat
	}
	x := units(a)
	x.Quo(x, power(scale))
	if !x.IsInt64() {
		return 0, api.TFloat
	}
	return int(x.Int64()), api.TNone
}

// twos and ones are the instructions of P1002.
func twos() []int {
	return []int{api.IAdd, api.ISub, api.IMul, api.IDiv, api.IRem, api.IAnd, api.IOr, api.IXor, api.IShl, api.IShr, api.IUshr, api.IEq, api.ILt, api.IUlt,
		api.IFadd, api.IFsub, api.IFmul, api.IFdiv, api.IFeq, api.IFlt}
}

func ones() []int {
	return []int{api.INeg, api.INot, api.IFneg, api.IFroot, api.IToF, api.IToI}
}

// wholeTwos and floatTwos are the two rows of those that take two.
func wholeTwos() []int { return twos()[:14] }

func floatTwos() []int { return twos()[14:] }

// checkTwo holds Two against wantTwo.
func checkTwo(t testing.TB, op, a, b int) {
	t.Helper()
	want, trap := wantTwo(op, a, b)
	is2(t, op, a, b, want, trap)
}

func checkOne(t testing.TB, op, a int) {
	t.Helper()
	want, trap := wantOne(op, a)
	is1(t, op, a, want, trap)
}

func is2(t testing.TB, op, a, b, want int, trap api.Trap) {
	t.Helper()
	if w, x := cell.Two(op, a, b); w != want || x != trap {
		t.Errorf("P1003: Two(%d, %d, %d): %d, %s; want %d, %s", op, a, b, w, x.Word(), want, trap.Word())
	}
}

func is1(t testing.TB, op, a, want int, trap api.Trap) {
	t.Helper()
	if w, x := cell.One(op, a); w != want || x != trap {
		t.Errorf("P1004: One(%d, %d): %d, %s; want %d, %s", op, a, w, x.Word(), want, trap.Word())
	}
}

// wholes are words at the edges of whole numbers.
func wholes() []int {
	row := []int{0x5555555555555555, 0x3333333333333333, 0x0f0f0f0f0f0f0f0f, 0x123456789abcdef, 3037000499, 3037000500, 1e18, 7, 10}
	for _, n := range []int{0, 1, 2, 3, 6, 7, 8, 16, 31, 32, 33, 51, 52, 53, 54, 61, 62, 63} {
		row = append(row, 1<<n-1, 1<<n, 1<<n+1)
	}
	return bothWays(row, func(a int) int { return -a })
}

// bothWays is a row, and what f makes of it, each once.
func bothWays(row []int, f func(int) int) []int {
	for _, a := range row {
		row = append(row, f(a))
	}
	slices.Sort(row)
	return slices.Compact(row)
}

// floats are words at the edges of floats, numbers and others.
func floats() []int {
	row := []int{0, 1, 2, 3, normal/2 - 1, normal / 2, normal - 1, normal, normal + 1, 2 * normal, 3*normal + 1,
		greatest, greatest - 1, greatest - normal, greatest - normal + 1, greatest - 52*normal, greatest - 53*normal, greatest - 54*normal,
		infinity, infinity + 1, none - 1, none, none + 1, most - 1, most}
	for _, e := range []int{-1022, -1021, -538, -537, -536, -512, -511, -55, -54, -53, -52, -2, -1, 0, 1, 2, 50, 51, 52, 53, 54, 61, 62, 63, 64, 511, 512, 971, 1023} {
		row = append(row, unit+e*normal, unit+e*normal-1, unit+e*normal+1, unit+e*normal+normal/2)
	}
	for _, x := range []float64{0.1, 0.2, 0.3, 2.5, 3, 5, 7, 10, math.Pi, 1e100, 1e-100, 1e308, 5e-310} {
		row = append(row, int(math.Float64bits(x)))
	}
	return bothWays(row, turned)
}

// numbers are those floats that are numbers, infinities among them.
func numbers() []int { return slices.DeleteFunc(floats(), isNone) }

// some draws a word: any, or one near an edge.
func some(r *rand.Rand, edges []int) int {
	switch r.IntN(4) {
	case 0:
		return int(r.Uint64())
	case 1:
		return int(r.Uint64()) >> r.IntN(64)
	case 2:
		return edges[r.IntN(len(edges))]
	}
	return edges[r.IntN(len(edges))] + r.IntN(9) - 4
}
