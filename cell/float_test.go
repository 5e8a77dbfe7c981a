package cell_test

import (
	"math"
	"testing"

	"retort/api"
	"retort/cell"
)

// f is the word of a float that is written here, which is a number.
func f(x float64) int { return int(math.Float64bits(x)) }

func TestFloatExamples(t *testing.T) {
	is1(t, api.IToF, 1, 4607182418800017408, api.TNone)
	is1(t, api.IToF, 9007199254740993, f(9007199254740992), api.TNone)
	is2(t, api.IFdiv, f(1), f(0), 9218868437227405312, api.TNone)
	is2(t, api.IFdiv, 0, 0, none, api.TNone)
	is1(t, api.IFneg, 0, -9223372036854775808, api.TNone)
	is1(t, api.IFneg, none, none, api.TNone)
	is1(t, api.IFneg, 9218868437227405313, none, api.TNone)
	is1(t, api.IFroot, f(4), f(2), api.TNone)
	is1(t, api.IFroot, f(-1), none, api.TNone)
	is1(t, api.IToI, 4612811918334230528, 2, api.TNone)
	is1(t, api.IToI, none, 0, api.TFloat)
	is1(t, api.IToI, 4890909195324358656, 0, api.TFloat)
	is1(t, api.IToI, -4332462841530417152, -9223372036854775808, api.TNone)
}

// Float and Word, by the bits.
func TestThereAndBack(t *testing.T) {
	for x, w := range map[float64]int{0: 0, 1: unit, -1: unit | minus, 2.5: 4612811918334230528, math.MaxFloat64: greatest, math.SmallestNonzeroFloat64: 1,
		0x1p-1022: normal, math.Inf(1): infinity, math.Inf(-1): infinity | minus} {
		if cell.Float(w) != x || cell.Word(x) != w {
			t.Errorf("P1001: %v: %d; %d: %v", x, cell.Word(x), w, cell.Float(w))
		}
	}
	if x := cell.Float(minus); x != 0 || !math.Signbit(x) {
		t.Errorf("P1001: Float of -0: %v", x)
	}
	if w := cell.Word(math.Copysign(0, -1)); w != minus {
		t.Errorf("P1001: Word of -0: %d", w)
	}
	r, row := source(2), floats()
	for range 20000 {
		row = append(row, some(r, row))
	}
	for _, w := range row {
		x := cell.Float(w)
		if math.Float64bits(x) != uint64(w) {
			t.Fatalf("P1001: Float(%d) has the bits %d", w, math.Float64bits(x))
		}
		want := w
		if isNone(w) {
			want = none
		}
		if back := cell.Word(x); back != want || math.IsNaN(x) != isNone(w) {
			t.Fatalf("P1005: Word(Float(%d)): %d", w, back)
		}
	}
}

// nones are words of what is not a number: either sign, each single bit, all bits.
func nones() []int {
	row := []int{none, most, infinity + 1, none + 5}
	for i := range 52 {
		row = append(row, infinity|1<<i, infinity|(normal-1)^1<<i)
	}
	return bothWays(row, turned)
}

func TestOneWordOfNone(t *testing.T) {
	for _, w := range nones() {
		if got := cell.Word(math.Float64frombits(uint64(w))); got != none {
			t.Errorf("P1001: Word of the bits %d: %d", w, got)
		}
		is1(t, api.IFneg, w, none, api.TNone)
		is1(t, api.IFroot, w, none, api.TNone)
		is1(t, api.IToI, w, 0, api.TFloat)
		for _, b := range []int{0, minus, 1, unit, unit | minus, infinity, infinity | minus, none, w, turned(w)} {
			for _, op := range []int{api.IFadd, api.IFsub, api.IFmul, api.IFdiv} {
				is2(t, op, w, b, none, api.TNone)
				is2(t, op, b, w, none, api.TNone)
			}
			for _, op := range []int{api.IFeq, api.IFlt} {
				is2(t, op, w, b, 0, api.TNone)
				is2(t, op, b, w, 0, api.TNone)
			}
		}
	}
}

// What is rounded to the even one, vanishes, goes beyond the greatest.
func TestRounding(t *testing.T) {
	const half = unit - 53*normal // of the last bit of 1
	for _, c := range []struct{ op, a, b, want int }{
		{api.IFadd, f(0.1), f(0.2), f(0.30000000000000004)},
		{api.IFadd, unit, half, unit}, {api.IFadd, unit + 1, half, unit + 2}, {api.IFadd, unit, half + 1, unit + 1}, {api.IFadd, unit + 1, half - 1, unit + 1},
		{api.IFadd, f(1 << 53), f(1), f(1 << 53)}, {api.IFadd, f(1 << 53), f(3), f(1<<53 + 4)}, {api.IFsub, f(-(1 << 53)), f(1), f(-(1 << 53))},
		{api.IFadd, greatest, greatest, infinity}, {api.IFadd, greatest, f(0x1p970), infinity}, {api.IFadd, greatest, f(0x1p970) - 1, greatest}, {api.IFadd, greatest, f(0x1p969), greatest},
		{api.IFsub, turned(greatest), greatest, turned(infinity)}, {api.IFmul, greatest, f(2), infinity}, {api.IFmul, greatest, f(-2), turned(infinity)}, {api.IFdiv, greatest, f(0.5), infinity}, {api.IFdiv, greatest, f(-0.5), turned(infinity)}, {api.IFdiv, greatest, 1, infinity},
		{api.IFmul, 1, f(0.5), 0}, {api.IFmul, 1, f(0.5) + 1, 1}, {api.IFmul, 3, f(0.5), 2}, {api.IFmul, 1, f(-0.5), minus}, {api.IFmul, turned(1), f(-0.5), 0}, {api.IFmul, 1, 1, 0}, {api.IFmul, turned(1), 1, minus},
		{api.IFdiv, 1, f(2), 0}, {api.IFdiv, 3, f(2), 2}, {api.IFdiv, 5, f(2), 2}, {api.IFdiv, 1, f(-2), minus}, {api.IFdiv, 1, greatest, 0}, {api.IFdiv, normal, f(2), normal / 2}, {api.IFmul, normal, unit - 1, normal},
		{api.IFsub, normal, normal + 1, turned(1)}, {api.IFadd, normal - 1, 1, normal}, {api.IFdiv, f(1), f(3), f(0x1.5555555555555p-2)}, {api.IFdiv, f(2), f(3), f(0x1.5555555555555p-1)},
	} {
		is2(t, c.op, c.a, c.b, c.want, api.TNone)
		want, _ := wantTwo(c.op, c.a, c.b)
		if want != c.want {
			t.Errorf("Two(%d, %d, %d) would be held against %d, not %d", c.op, c.a, c.b, want, c.want)
		}
	}
}

// Zeros and infinities.
func TestEnds(t *testing.T) {
	less := turned(infinity)
	for _, c := range []struct{ op, a, b, want int }{
		{api.IFadd, 0, minus, 0}, {api.IFadd, minus, minus, minus}, {api.IFadd, minus, 0, 0}, {api.IFsub, minus, 0, minus}, {api.IFsub, 0, minus, 0}, {api.IFsub, 0, 0, 0}, {api.IFsub, minus, minus, 0},
		{api.IFsub, f(1), f(1), 0}, {api.IFadd, f(-1), f(1), 0}, {api.IFmul, 0, f(-1), minus}, {api.IFmul, minus, f(-1), 0}, {api.IFmul, minus, 0, minus},
		{api.IFdiv, 0, 0, none}, {api.IFdiv, 0, minus, none}, {api.IFdiv, f(1), minus, less}, {api.IFdiv, f(-1), 0, less}, {api.IFdiv, f(-1), minus, infinity}, {api.IFdiv, minus, f(1), minus}, {api.IFdiv, f(-1), infinity, minus}, {api.IFdiv, 0, less, minus},
		{api.IFsub, infinity, infinity, none}, {api.IFadd, infinity, less, none}, {api.IFadd, less, infinity, none}, {api.IFsub, less, less, none}, {api.IFadd, infinity, infinity, infinity}, {api.IFsub, infinity, less, infinity}, {api.IFadd, less, greatest, less},
		{api.IFmul, infinity, 0, none}, {api.IFmul, minus, infinity, none}, {api.IFmul, less, less, infinity}, {api.IFmul, less, 1, less}, {api.IFdiv, infinity, infinity, none}, {api.IFdiv, less, infinity, none}, {api.IFdiv, infinity, 0, infinity}, {api.IFdiv, infinity, minus, less}, {api.IFdiv, 0, infinity, 0},
		{api.IFeq, 0, minus, 1}, {api.IFeq, minus, 0, 1}, {api.IFlt, minus, 0, 0}, {api.IFlt, 0, minus, 0}, {api.IFeq, infinity, infinity, 1}, {api.IFeq, infinity, less, 0}, {api.IFlt, less, infinity, 1}, {api.IFlt, infinity, infinity, 0}, {api.IFlt, greatest, infinity, 1}, {api.IFlt, less, turned(greatest), 1},
		{api.IFlt, turned(1), 0, 1}, {api.IFlt, turned(1), minus, 1}, {api.IFlt, 0, 1, 1}, {api.IFlt, minus, 1, 1}, {api.IFlt, f(-1), f(1), 1}, {api.IFlt, f(1), f(-1), 0}, {api.IFlt, f(-2), f(-1), 1}, {api.IFlt, f(-1), f(-2), 0}, {api.IFeq, f(1), f(1), 1}, {api.IFeq, 1, 2, 0},
		{api.IFeq, none, none, 0}, {api.IFlt, none, none, 0},
	} {
		is2(t, c.op, c.a, c.b, c.want, api.TNone)
	}
}

func TestRoots(t *testing.T) {
	for _, c := range []struct{ a, want int }{
		{0, 0}, {minus, minus}, {turned(1), none}, {f(-1), none}, {turned(greatest), none}, {turned(infinity), none}, {infinity, infinity},
		{none, none}, {turned(none), none}, {infinity + 1, none}, {unit, unit}, {f(4), f(2)}, {f(2), f(math.Sqrt2)}, {f(0.25), f(0.5)},
		{1, f(0x1p-537)}, {2, f(0x1.6a09e667f3bcdp-537)}, {normal, f(0x1p-511)}, {greatest, f(0x1.fffffffffffffp511)}, {unit + 1, unit}, {unit + 2, unit + 1}, {unit - 1, unit - 1}, {f(9007199254740993), f(94906265.62425156)},
	} {
		is1(t, api.IFroot, c.a, c.want, api.TNone)
	}
}

func TestFloatPairs(t *testing.T) {
	row := floats()
	for _, a := range row {
		checkOne(t, api.IFneg, a)
		checkOne(t, api.IFroot, a)
		checkOne(t, api.IToF, a)
		checkOne(t, api.IToI, a)
		for _, b := range row {
			for _, op := range floatTwos() {
				checkTwo(t, op, a, b)
			}
		}
	}
}

func TestFloatDrawn(t *testing.T) {
	r, edges := source(3), floats()
	for range 10000 {
		a, b := some(r, edges), some(r, edges)
		if r.IntN(3) == 0 {
			b = a&^(1<<60-1) | int(r.Uint64()>>4) // of a like size, so that sums cancel and round
		}
		for _, op := range floatTwos() {
			checkTwo(t, op, a, b)
		}
		for _, op := range ones() {
			checkOne(t, op, a)
		}
	}
}
