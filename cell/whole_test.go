package cell_test

import (
	"testing"

	"retort/api"
)

func TestWholeExamples(t *testing.T) {
	for _, c := range []struct {
		op, a, b, want int
		trap           api.Trap
	}{
		{api.IAdd, 9223372036854775807, 1, -9223372036854775808, api.TNone},
		{api.IDiv, -7, 2, -3, api.TNone},
		{api.IRem, -7, 2, -1, api.TNone},
		{api.IDiv, -9223372036854775808, -1, -9223372036854775808, api.TNone},
		{api.IRem, -9223372036854775808, -1, 0, api.TNone},
		{api.IDiv, 1, 0, 0, api.TDivide},
		{api.IShl, 1, 64, 1, api.TNone},
		{api.IShl, 1, -1, -9223372036854775808, api.TNone},
		{api.IShr, -8, 1, -4, api.TNone},
		{api.IUshr, -8, 1, 9223372036854775804, api.TNone},
		{api.IUlt, 1, -1, 1, api.TNone},
		{api.ILt, 1, -1, 0, api.TNone},
		{api.INeg, 1, 1, 0, api.TOp},
	} {
		is2(t, c.op, c.a, c.b, c.want, c.trap)
	}
	is1(t, api.IAdd, 1, 0, api.TOp)
}

func TestWrap(t *testing.T) {
	for _, c := range []struct{ op, a, b, want int }{
		{api.IAdd, most, most, -2}, {api.IAdd, least, least, 0}, {api.IAdd, least, -1, most}, {api.IAdd, least, most, -1},
		{api.ISub, least, 1, most}, {api.ISub, most, -1, least}, {api.ISub, 0, least, least}, {api.ISub, -1, least, most}, {api.ISub, 3, 5, -2},
		{api.IMul, most, 2, -2}, {api.IMul, least, -1, least}, {api.IMul, least, 2, 0}, {api.IMul, 1 << 32, 1 << 32, 0}, {api.IMul, 1 << 32, 1 << 31, least}, {api.IMul, most, most, 1},
	} {
		is2(t, c.op, c.a, c.b, c.want, api.TNone)
	}
}

// Quotients and rests of all four pairs of signs, by 0, of the least and the greatest word.
func TestParts(t *testing.T) {
	for _, c := range []struct{ a, b, quo, rem int }{
		{7, 2, 3, 1}, {-7, 2, -3, -1}, {7, -2, -3, 1}, {-7, -2, 3, -1},
		{6, 3, 2, 0}, {-6, 3, -2, 0}, {6, -3, -2, 0}, {-6, -3, 2, 0},
		{1, 2, 0, 1}, {-1, 2, 0, -1}, {1, -2, 0, 1}, {-1, -2, 0, -1}, {0, 5, 0, 0}, {0, -5, 0, 0},
		{least, -1, least, 0}, {least, 1, least, 0}, {least, least, 1, 0}, {least, most, -1, -1}, {least, 2, -1 << 62, 0}, {least, 3, -3074457345618258602, -2},
		{most, -1, -most, 0}, {most, least, 0, most}, {most, most, 1, 0}, {1, least, 0, 1}, {-1, least, 0, -1},
	} {
		is2(t, api.IDiv, c.a, c.b, c.quo, api.TNone)
		is2(t, api.IRem, c.a, c.b, c.rem, api.TNone)
	}
	for _, a := range append(wholes(), floats()...) {
		is2(t, api.IDiv, a, 0, 0, api.TDivide)
		is2(t, api.IRem, a, 0, 0, api.TDivide)
	}
}

// Moves by every amount's lowest six bits.
func TestMoves(t *testing.T) {
	for _, c := range []struct{ op, a, b, want int }{
		{api.IShl, 3, 0, 3}, {api.IShl, 3, 63, least}, {api.IShl, 3, 64, 3}, {api.IShl, 3, 65, 6}, {api.IShl, 3, -64, 3}, {api.IShl, 3, -63, 6}, {api.IShl, -1, 63, least}, {api.IShl, -1, 4, -16}, {api.IShl, 3, least, 3}, {api.IShl, 3, most, least},
		{api.IShr, -3, 0, -3}, {api.IShr, -3, 63, -1}, {api.IShr, -3, 64, -3}, {api.IShr, -3, 1, -2}, {api.IShr, -3, -1, -1}, {api.IShr, most, 63, 0}, {api.IShr, most, 62, 1}, {api.IShr, least, 63, -1}, {api.IShr, least, least, least},
		{api.IUshr, -3, 0, -3}, {api.IUshr, -3, 63, 1}, {api.IUshr, -3, 64, -3}, {api.IUshr, -1, 1, most}, {api.IUshr, -1, -1, 1}, {api.IUshr, most, 62, 1}, {api.IUshr, least, 63, 1}, {api.IUshr, least, least, least}, {api.IUshr, -1, 256 + 60, 15},
	} {
		is2(t, c.op, c.a, c.b, c.want, api.TNone)
	}
	for by := -200; by <= 200; by++ {
		for _, a := range []int{0, 1, 3, -1, -2, -3, least, least + 1, most, most - 1, 0x123456789abcdef, -0x123456789abcdef} {
			for _, far := range []int{by, by + 1<<32, by - 1<<32, by + 1<<62, by ^ least} {
				checkTwo(t, api.IShl, a, far)
				checkTwo(t, api.IShr, a, far)
				checkTwo(t, api.IUshr, a, far)
			}
		}
	}
}

func TestOrder(t *testing.T) {
	rising := []int{least, least + 1, -1 << 32, -2, -1, 0, 1, 2, 1 << 32, most - 1, most}
	upwards := []int{0, 1, 2, 1 << 32, most - 1, most, least, least + 1, -1 << 32, -2, -1}
	for i := range rising {
		for k := range rising {
			is2(t, api.IEq, rising[i], rising[k], oneIf(i == k), api.TNone)
			is2(t, api.ILt, rising[i], rising[k], oneIf(i < k), api.TNone)
			is2(t, api.IUlt, upwards[i], upwards[k], oneIf(i < k), api.TNone)
		}
	}
}

func TestWholePairs(t *testing.T) {
	row := append(wholes(), infinity, none, minus)
	for _, a := range row {
		checkOne(t, api.INeg, a)
		checkOne(t, api.INot, a)
		for _, b := range row {
			for _, op := range wholeTwos() {
				checkTwo(t, op, a, b)
			}
		}
	}
}

func TestWholeDrawn(t *testing.T) {
	r, edges := source(1), wholes()
	for range 5000 {
		a, b := some(r, edges), some(r, edges)
		checkOne(t, api.INeg, a)
		checkOne(t, api.INot, a)
		for _, op := range wholeTwos() {
			checkTwo(t, op, a, b)
		}
	}
}

func TestTurnedWholes(t *testing.T) {
	for _, c := range []struct{ a, neg, not int }{
		{0, 0, -1}, {1, -1, -2}, {-1, 1, 0}, {5, -5, -6}, {most, -most, least}, {least, least, most}, {least + 1, most, most - 1},
	} {
		is1(t, api.INeg, c.a, c.neg, api.TNone)
		is1(t, api.INot, c.a, c.not, api.TNone)
	}
}
