package cell_test

import (
	"math"
	"testing"

	"retort/api"
	"retort/cell"
)

// Numbers that no float is, to either side and halfway.
func TestToFloat(t *testing.T) {
	const p = 1 << 53
	for _, c := range []struct {
		a    int
		want float64
	}{
		{0, 0}, {1, 1}, {-1, -1}, {-3, -3}, {p - 1, p - 1}, {p, p}, {p + 1, p}, {p + 2, p + 2}, {p + 3, p + 4}, {p + 5, p + 4}, {p + 7, p + 8},
		{-p + 1, -p + 1}, {-p, -p}, {-p - 1, -p}, {-p - 3, -p - 4}, {2*p + 1, 2 * p}, {2*p + 2, 2 * p}, {2*p + 3, 2*p + 4}, {2*p + 5, 2*p + 4}, {2*p + 6, 2*p + 8},
		{1<<62 + 255, 1 << 62}, {1<<62 + 256, 1 << 62}, {1<<62 + 512, 1 << 62}, {1<<62 + 513, 1<<62 + 1024}, {1<<62 + 1536, 1<<62 + 2048}, {-1<<62 - 512, -1 << 62}, {-1<<62 - 513, -1<<62 - 1024},
		{most, 1 << 63}, {most - 511, 1 << 63}, {most - 512, 1<<63 - 1024}, {most - 1023, 1<<63 - 1024}, {least, -1 << 63}, {least + 1, -1 << 63}, {least + 512, -1 << 63}, {least + 513, -1<<63 + 1024},
	} {
		is1(t, api.IToF, c.a, f(c.want), api.TNone)
	}
}

// The floats next to 2^63 and to -2^63 on either side, infinities, floats between 0 and 1.
func TestToWhole(t *testing.T) {
	const end = unit + 63*normal
	for _, c := range []struct {
		a, want int
		trap    api.Trap
	}{
		{end - 1, 9223372036854774784, api.TNone}, {end, 0, api.TFloat}, {end + 1, 0, api.TFloat},
		{turned(end - 1), -9223372036854774784, api.TNone}, {turned(end), least, api.TNone}, {turned(end + 1), 0, api.TFloat},
		{infinity, 0, api.TFloat}, {turned(infinity), 0, api.TFloat}, {greatest, 0, api.TFloat}, {turned(greatest), 0, api.TFloat},
		{none, 0, api.TFloat}, {turned(none), 0, api.TFloat}, {infinity + 1, 0, api.TFloat}, {most, 0, api.TFloat}, {-1, 0, api.TFloat}, {end + normal, 0, api.TFloat}, {turned(end + normal), 0, api.TFloat},
		{0, 0, api.TNone}, {minus, 0, api.TNone}, {1, 0, api.TNone}, {turned(1), 0, api.TNone}, {f(0.5), 0, api.TNone}, {f(-0.5), 0, api.TNone}, {f(0.9), 0, api.TNone}, {f(-0.9), 0, api.TNone}, {unit - 1, 0, api.TNone}, {turned(unit - 1), 0, api.TNone},
		{unit, 1, api.TNone}, {f(-1), -1, api.TNone}, {f(1.5), 1, api.TNone}, {f(-1.5), -1, api.TNone}, {f(2.5), 2, api.TNone}, {f(-2.5), -2, api.TNone}, {f(3) - 1, 2, api.TNone}, {f(-3) - 1, -2, api.TNone},
		{f(1<<52 - 0.5), 1<<52 - 1, api.TNone}, {f(-(1<<52 - 0.5)), -(1<<52 - 1), api.TNone}, {f(1 << 53), 1 << 53, api.TNone}, {f(1 << 62), 1 << 62, api.TNone}, {f(4294967296.75), 1 << 32, api.TNone}, {f(-2147483649.25), -1<<31 - 1, api.TNone},
	} {
		is1(t, api.IToI, c.a, c.want, c.trap)
	}
}

// middles are whole numbers between -2^52 and 2^52.
func middles() []int {
	const end = 1 << 52
	row := []int{0, 1, 2, 3, 10, 255, 256, 1<<31 - 1, 1 << 31, 1<<32 + 1, end / 2, end/2 + 1, end - 3, end - 2, end - 1, end}
	r := source(4)
	for range 60 {
		row = append(row, r.IntN(end+1), r.IntN(end+1)>>r.IntN(52))
	}
	return bothWays(row, func(a int) int { return -a })
}

func word(t *testing.T, w int, trap api.Trap) int {
	t.Helper()
	if trap != api.TNone {
		t.Errorf("a trap: %s", trap.Word())
	}
	return w
}

func toFloat(t *testing.T, a int) int {
	w, trap := cell.One(api.IToF, a)
	return word(t, w, trap)
}

func twoOf(t *testing.T, op, a, b int) int {
	w, trap := cell.Two(op, a, b)
	return word(t, w, trap)
}

func TestWholeNumbersAsFloats(t *testing.T) {
	for _, a := range middles() {
		x := toFloat(t, a)
		if int(cell.Float(x)) != a || cell.Float(x) != math.Trunc(cell.Float(x)) {
			t.Errorf("P1006: IToF of %d: %v", a, cell.Float(x))
		}
		is1(t, api.IToI, x, a, api.TNone)
		for _, b := range middles() {
			y := toFloat(t, b)
			is2(t, api.IFadd, x, y, toFloat(t, a+b), api.TNone)
			is2(t, api.IFsub, x, y, toFloat(t, a-b), api.TNone)
			is2(t, api.IFlt, x, y, twoOf(t, api.ILt, a, b), api.TNone)
			is2(t, api.IFeq, x, y, twoOf(t, api.IEq, a, b), api.TNone)
		}
	}
}

// rank is a word's place in the order of floats: one below 0 counts as -2^63 less itself.
func rank(w int) int {
	if w < 0 {
		return least - w
	}
	return w
}

func TestOrderOfFloats(t *testing.T) {
	row, r := numbers(), source(5)
	for len(row) < 600 {
		if w := some(r, row); !isNone(w) {
			row = append(row, w)
		}
	}
	for _, a := range row {
		for _, b := range row {
			is2(t, api.IFlt, a, b, oneIf(rank(a) < rank(b)), api.TNone)
			is2(t, api.IFeq, a, b, oneIf(rank(a) == rank(b)), api.TNone)
		}
	}
}

// checkNone: of what is not a number None alone is told.
func checkNone(t testing.TB, op, w int) {
	t.Helper()
	if isNone(w) && w != none {
		t.Errorf("P1005: instruction %d tells %d", op, w)
	}
}

func TestNoOtherNone(t *testing.T) {
	row := append(floats(), nones()...)
	for _, a := range row {
		for _, op := range []int{api.IFneg, api.IFroot, api.IToF} {
			w, _ := cell.One(op, a)
			checkNone(t, op, w)
		}
		for _, b := range row {
			for _, op := range []int{api.IFadd, api.IFsub, api.IFmul, api.IFdiv} {
				w, _ := cell.Two(op, a, b)
				checkNone(t, op, w)
			}
		}
	}
}

// FuzzWords holds all instructions against what the tables say.
func FuzzWords(x *testing.F) {
	for _, w := range []int{0, 1, -1, least, most, none, infinity, greatest, unit, 64} {
		x.Add(api.IAdd, w, unit)
		x.Add(-1, unit, w)
	}
	x.Fuzz(func(t *testing.T, op, a, b int) {
		checkTwo(t, op, a, b)
		checkOne(t, op, a)
		for _, op := range twos() {
			checkTwo(t, op, a, b)
		}
		for _, op := range ones() {
			checkOne(t, op, a)
		}
	})
}
