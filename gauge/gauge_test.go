package gauge_test

import (
	"cmp"
	"math"
	"math/big"
	"math/rand/v2"
	"slices"
	"testing"

	"adit/api"
	"adit/gauge"
)

// noNumber is the digits of what is no number, where a call tells it.
const noNumber = 9221120237041090561

// negative is -0, which no constant is.
func negative() float64 { return math.Copysign(0, -1) }

// of is the measure of these digits.
func of(digits uint64) float64 { return math.Float64frombits(digits) }

// rising are measures by the order, none twice.
func rising() []float64 {
	least, inf := math.SmallestNonzeroFloat64, math.Inf(1)
	return []float64{
		of(1<<64 - 1), of(1<<64 - 2), of(0xfff8000000000002), of(0xfff8000000000001), of(0xfff8000000000000), of(0xfff7ffffffffffff), of(0xfff0000000000001),
		-inf, -math.MaxFloat64, -1 << 53, -1000.5, -2, -1.0000000000000002, -1, -0.5, -0x1p-1022, -0x1p-1023, -2 * least, -least, negative(),
		0, least, 2 * least, 0x1p-1023, 0x1p-1022, 0.5, 1, 1.0000000000000002, 2, 1000.5, 1 << 53, math.MaxFloat64, inf,
		of(0x7ff0000000000001), of(0x7ff7ffffffffffff), of(0x7ff8000000000000), of(noNumber), of(0x7ff8000000000002), of(1<<63 - 1),
	}
}

// wrong are the measures that do not count.
func wrong() []float64 {
	return slices.DeleteFunc(rising(), func(x float64) bool { return x == x && x-x == 0 })
}

// right are the measures that count.
func right() []float64 {
	return slices.DeleteFunc(rising(), func(x float64) bool { return x-x != 0 })
}

// is holds that a measure has the digits of another one.
func is(t *testing.T, what string, got, want float64) {
	t.Helper()
	if math.Float64bits(got) != math.Float64bits(want) {
		t.Errorf("%s: %v (%#x), want %v (%#x)", what, got, math.Float64bits(got), want, math.Float64bits(want))
	}
}

// same holds that a gauge is as another one, digit by digit.
func same(t *testing.T, got, want gauge.Gauge) {
	t.Helper()
	if got.Count != want.Count || got.Bad != want.Bad {
		t.Errorf("Count, Bad: %d %d, want %d %d", got.Count, got.Bad, want.Count, want.Bad)
	}
	is(t, "Low", got.Low, want.Low)
	is(t, "High", got.High, want.High)
	is(t, "Smooth", got.Smooth, want.Smooth)
}

// digitsOf are the digits of measures.
func digitsOf(l []float64) []uint64 {
	var out []uint64
	for _, x := range l {
		out = append(out, math.Float64bits(x))
	}
	return out
}

// noted is the gauge of measures.
func noted(l ...float64) gauge.Gauge {
	var g gauge.Gauge
	for _, x := range l {
		g = g.Note(x)
	}
	return g
}

// some is a measure of whatever digits, often one of those at the edges.
func some(r *rand.Rand) float64 {
	switch r.IntN(4) {
	case 0:
		l := rising()
		return l[r.IntN(len(l))]
	case 1:
		return float64(r.IntN(2000) - 1000)
	case 2:
		return r.NormFloat64()
	}
	return of(r.Uint64())
}

// The chapter's examples.
func TestExamples(t *testing.T) {
	if o := gauge.Order(negative(), 0); o != -1 {
		t.Errorf("Order(-0, 0): %d", o)
	}
	is(t, "Least(0, -0)", gauge.Least(0, negative()), negative())
	x, e := gauge.Rate(0, 0)
	is(t, "Rate(0, 0)", x, of(noNumber))
	if e != api.OK {
		t.Errorf("Rate(0, 0): %v", e)
	}
}

// P16.1, P16.5: each two measures by the order; Same is of all digits.
func TestOrder(t *testing.T) {
	l := rising()
	for i, a := range l {
		for j, b := range l {
			if got := gauge.Order(a, b); got != cmp.Compare(i, j) {
				t.Errorf("Order(%#x, %#x): %d", math.Float64bits(a), math.Float64bits(b), got)
			}
			if got := gauge.Same(a, b); got != (i == j) {
				t.Errorf("Same(%#x, %#x): %v", math.Float64bits(a), math.Float64bits(b), got)
			}
		}
	}
}

// P16.1: each digit counts.
func TestEachDigit(t *testing.T) {
	for _, a := range rising() {
		for i := range 64 {
			b := of(math.Float64bits(a) ^ 1<<i)
			// What has the greatest digit stands ahead; what has another one stands behind, or, below 0, ahead.
			want := 1
			if set := math.Float64bits(b)>>i&1 == 1; set == (i < 63 && !math.Signbit(a)) {
				want = -1
			}
			if got := gauge.Order(a, b); got != want || gauge.Order(b, a) != -want || gauge.Same(a, b) {
				t.Errorf("Order(%#x, %#x): %d, want %d", math.Float64bits(a), math.Float64bits(b), got, want)
			}
		}
	}
}

// P16.5: of any three measures the order is total.
func TestTotal(t *testing.T) {
	r := rand.New(rand.NewPCG(16, 1))
	for range 20000 {
		a, b, c := some(r), some(r), some(r)
		ab, bc, ac := gauge.Order(a, b), gauge.Order(b, c), gauge.Order(a, c)
		if gauge.Order(b, a) != -ab || gauge.Order(a, a) != 0 {
			t.Fatalf("%v %v: %d %d", a, b, ab, gauge.Order(b, a))
		}
		if ab <= 0 && bc <= 0 && ac > 0 || ab >= 0 && bc >= 0 && ac < 0 || ab == 0 && ac != bc {
			t.Fatalf("%v %v %v: %d %d %d", a, b, c, ab, bc, ac)
		}
		if a < b && ab != -1 || a > b && ab != 1 {
			t.Fatalf("%v %v: %d", a, b, ab)
		}
	}
}

// P16.1: Counts.
func TestCounts(t *testing.T) {
	for i, x := range rising() {
		if want := i >= 8 && i < 32; gauge.Counts(x) != want {
			t.Errorf("Counts(%#x): %v", math.Float64bits(x), !want)
		}
	}
}

// P16.1, P16.7: Least and Greatest of each two measures.
func TestLeastAndGreatest(t *testing.T) {
	l := rising()
	for i, a := range l {
		for j, b := range l {
			least, greatest := l[min(i, j)], l[max(i, j)]
			if a != a || b != b {
				least, greatest = of(noNumber), of(noNumber)
			}
			is(t, "Least", gauge.Least(a, b), least)
			is(t, "Greatest", gauge.Greatest(a, b), greatest)
		}
	}
}

// P16.7: the least one of two numbers is one of them, and not behind the other; the greatest one is the other one.
func TestLeastIsOne(t *testing.T) {
	r := rand.New(rand.NewPCG(16, 2))
	for range 20000 {
		a, b := some(r), some(r)
		least, greatest := gauge.Least(a, b), gauge.Greatest(a, b)
		if a != a || b != b {
			is(t, "Least", least, of(noNumber))
			is(t, "Greatest", greatest, of(noNumber))
			continue
		}
		if !gauge.Same(least, a) && !gauge.Same(least, b) || gauge.Order(least, a) > 0 || gauge.Order(least, b) > 0 {
			t.Fatalf("Least(%v, %v): %v", a, b, least)
		}
		if gauge.Same(least, a) && !gauge.Same(greatest, b) || gauge.Same(least, b) && !gauge.Same(greatest, a) {
			t.Fatalf("Greatest(%v, %v): %v, Least: %v", a, b, greatest, least)
		}
	}
}

// rounded is a number as a measure, by a number of 53 digits.
func rounded() *big.Float { return new(big.Float).SetPrec(53) }

// P16.2: Rate, each step rounded.
func TestRate(t *testing.T) {
	for _, c := range []struct {
		n    uint64
		ms   int64
		want float64
	}{
		{3, 1000, 3}, {0, 1, 0}, {0, math.MaxInt64, 0}, {1, 1, 1000}, {1, 1000, 1}, {1, 2000, 0.5}, {7, 500, 14}, {1, 8000, 0.125},
		{1500, 1, 1500000}, {1 << 53, 1000, 1 << 53}, {1<<53 + 1, 1000, 1 << 53}, {1<<53 + 3, 1000, 1<<53 + 4},
		{math.MaxUint64, 1000, 1 << 64}, {math.MaxUint64, math.MaxInt64, 2000}, {1 << 63, math.MaxInt64, 1000},
	} {
		got, e := gauge.Rate(c.n, c.ms)
		is(t, "Rate", got, c.want)
		if e != api.OK {
			t.Errorf("Rate(%d, %d): %v", c.n, c.ms, e)
		}
	}
	r := rand.New(rand.NewPCG(16, 3))
	for range 20000 {
		n, ms := r.Uint64()>>r.IntN(64), r.Int64()>>r.IntN(63)
		if ms == 0 {
			ms = 3
		}
		product := rounded().Mul(rounded().SetUint64(n), rounded().SetInt64(1000))
		want, _ := rounded().Quo(product, rounded().SetInt64(ms)).Float64()
		got, e := gauge.Rate(n, ms)
		is(t, "Rate", got, want)
		if e != api.OK {
			t.Errorf("Rate(%d, %d): %v", n, ms, e)
		}
	}
}

// P16.2: no time, and a time below 0.
func TestRateWithoutTime(t *testing.T) {
	for _, n := range []uint64{1, 2, 1000, 1 << 53, 1 << 63, math.MaxUint64} {
		got, e := gauge.Rate(n, 0)
		is(t, "Rate in no time", got, math.Inf(1))
		if e != api.OK {
			t.Errorf("Rate(%d, 0): %v", n, e)
		}
	}
	for _, n := range []uint64{0, 1, 1000, math.MaxUint64} {
		for _, ms := range []int64{-1, -2, -1000, -1 << 40, math.MinInt64 + 1, math.MinInt64} {
			got, e := gauge.Rate(n, ms)
			is(t, "Rate in a time below 0", got, 0)
			if e != api.ErrArg {
				t.Errorf("Rate(%d, %d): %v", n, ms, e)
			}
		}
	}
}

// P16.3: what a gauge has, measure by measure.
func TestNote(t *testing.T) {
	var g gauge.Gauge
	same(t, g, gauge.Gauge{})
	for _, c := range []struct {
		x    float64
		want gauge.Gauge
	}{
		{of(noNumber), gauge.Gauge{Bad: 1}},
		{math.Inf(1), gauge.Gauge{Bad: 2}},
		{math.Inf(-1), gauge.Gauge{Bad: 3}},
		{8, gauge.Gauge{Count: 1, Bad: 3, Low: 8, High: 8, Smooth: 8}},
		{16, gauge.Gauge{Count: 2, Bad: 3, Low: 8, High: 16, Smooth: 9}},
		{1, gauge.Gauge{Count: 3, Bad: 3, Low: 1, High: 16, Smooth: 8}},
		{of(1 << 63), gauge.Gauge{Count: 4, Bad: 3, Low: negative(), High: 16, Smooth: 7}},
		{0, gauge.Gauge{Count: 5, Bad: 3, Low: negative(), High: 16, Smooth: 6.125}},
		{-9.875, gauge.Gauge{Count: 6, Bad: 3, Low: -9.875, High: 16, Smooth: 4.125}},
		{of(0xfff8000000000005), gauge.Gauge{Count: 6, Bad: 4, Low: -9.875, High: 16, Smooth: 4.125}},
		{4.125, gauge.Gauge{Count: 7, Bad: 4, Low: -9.875, High: 16, Smooth: 4.125}},
	} {
		before := g
		g = g.Note(c.x)
		same(t, g, c.want)
		if again := before.Note(c.x); again != g {
			t.Errorf("Note(%v) again: %v", c.x, again)
		}
	}
}

// P16.3: the first measure that counts is Low, High and Smooth, with its sign.
func TestNoteFirst(t *testing.T) {
	for _, x := range right() {
		same(t, noted(x), gauge.Gauge{Count: 1, Low: x, High: x, Smooth: x})
		same(t, noted(math.Inf(1), x, math.NaN()), gauge.Gauge{Count: 1, Bad: 2, Low: x, High: x, Smooth: x})
	}
	for _, x := range wrong() {
		same(t, noted(x), gauge.Gauge{Bad: 1})
		same(t, noted(-3, x), gauge.Gauge{Count: 1, Bad: 1, Low: -3, High: -3, Smooth: -3})
	}
}

// P16.3: of noughts the sign counts for Low and High, whichever comes first; Smooth is what its steps make of them.
func TestNoteNoughts(t *testing.T) {
	minus := negative()
	same(t, noted(minus, 0), gauge.Gauge{Count: 2, Low: minus, High: 0, Smooth: 0})
	same(t, noted(0, minus), gauge.Gauge{Count: 2, Low: minus, High: 0, Smooth: 0})
	same(t, noted(0, 0), gauge.Gauge{Count: 2, Low: 0, High: 0, Smooth: 0})
	same(t, noted(minus, minus), gauge.Gauge{Count: 2, Low: minus, High: minus, Smooth: 0})
	same(t, noted(minus, -math.SmallestNonzeroFloat64), gauge.Gauge{Count: 2, Low: -math.SmallestNonzeroFloat64, High: minus, Smooth: minus})
}

// P16.3: each step of Smooth is rounded for itself; where it ends at what does not count, it is the measure.
func TestSmoothSteps(t *testing.T) {
	least, most := math.SmallestNonzeroFloat64, math.MaxFloat64
	for _, c := range []struct{ first, x, want float64 }{
		{8, 16, 9},
		{16, 8, 15},
		{-1, 1<<53 + 2, 1<<50 - 0.5},
		{1, 1 + 0x1p-52, 1},
		{1, 1 + 0x1p-49, 1 + 0x1p-52},
		{0, least, 0},
		{0, 4 * least, 0},
		{0, 5 * least, least},
		{least, 5 * least, least},
		{3 * least, 15 * least, 5 * least},
		{-least, -5 * least, -least},
		{most, -most, -most},
		{-most, most, most},
		{most, -0x1p970, -0x1p970},
		{most, -0x1p969, most * 0.875},
		{most, most, most},
		{most, 0, most * 0.875},
		{0, most, most / 8},
		{-most, 0x1p1023, 0x1p1023},
		{-most / 2, most / 2, -most * 0.375},
	} {
		is(t, "Smooth", noted(c.first, c.x).Smooth, c.want)
	}
}

// smooth is where Smooth moves, by numbers of 53 digits, of numbers that are neither tiny nor huge.
func smooth(from, x float64) float64 {
	away := rounded().Sub(rounded().SetFloat64(x), rounded().SetFloat64(from))
	eighth := rounded().Quo(away, rounded().SetInt64(8))
	out, _ := rounded().Add(rounded().SetFloat64(from), eighth).Float64()
	return out
}

// P16.3: Smooth beside steps of another kind of number.
func TestSmoothBesideAModel(t *testing.T) {
	r := rand.New(rand.NewPCG(16, 4))
	for range 200 {
		g, want := gauge.Gauge{}, 0.0
		for i := range 60 {
			x := r.NormFloat64() * math.Ldexp(1, r.IntN(80)-40)
			g = g.Note(x)
			if i == 0 {
				want = x
			} else {
				want = smooth(want, x)
			}
			is(t, "Smooth", g.Smooth, want)
		}
	}
}

// P16.6: Low and High do not hang on the order in which measures were noted; Smooth lies between them.
func TestOrderOfNotes(t *testing.T) {
	r := rand.New(rand.NewPCG(16, 5))
	for range 2000 {
		var row []float64
		for range r.IntN(12) {
			row = append(row, some(r))
		}
		want := gauge.Gauge{}
		for _, x := range gauge.Sort(row) {
			if !gauge.Counts(x) {
				want.Bad++
				continue
			}
			if want.Count == 0 {
				want.Low = x
			}
			want.Count, want.High = want.Count+1, x
		}
		for range 4 {
			r.Shuffle(len(row), func(i, j int) { row[i], row[j] = row[j], row[i] })
			g := noted(row...)
			if g.Smooth < g.Low || g.Smooth > g.High || !gauge.Counts(g.Smooth) {
				t.Fatalf("%v: %v", row, g)
			}
			g.Smooth = 0
			same(t, g, want)
		}
	}
}

// P1, P16.3: gauges made by hand.
func TestGaugesByHand(t *testing.T) {
	full := gauge.Gauge{Count: math.MaxUint64, Bad: math.MaxUint64, Low: 1, High: 8, Smooth: 4}
	same(t, full.Note(math.NaN()), full)
	same(t, full.Note(12), gauge.Gauge{Count: math.MaxUint64, Bad: math.MaxUint64, Low: 1, High: 12, Smooth: 5})
	almost := gauge.Gauge{Count: math.MaxUint64 - 1, Bad: math.MaxUint64 - 1, Low: 1, High: 8, Smooth: 4}
	same(t, almost.Note(4).Note(math.NaN()), full)
	same(t, gauge.Gauge{Low: 5, High: -5, Smooth: 7}.Note(1), gauge.Gauge{Count: 1, Low: 1, High: 1, Smooth: 1})
	for _, a := range rising() {
		for _, x := range rising() {
			g := gauge.Gauge{Count: 3, Low: a, High: a, Smooth: a}.Note(x)
			for _, told := range []float64{g.Low, g.High, g.Smooth} {
				if told != told {
					is(t, "no number", told, of(noNumber))
				}
			}
			if gauge.Counts(x) && !gauge.Counts(g.Smooth) {
				t.Errorf("Smooth of %v behind %v: %v", x, a, g.Smooth)
			}
			if want := gauge.Counts(x); (g.Count == 4) != want || (g.Bad == 1) == want {
				t.Errorf("Note(%v): %v", x, g)
			}
		}
	}
}

// P16.4: Sort keeps each measure as it was handed in, and what was handed in as it was.
func TestSort(t *testing.T) {
	if len(gauge.Sort(nil)) != 0 || len(gauge.Sort([]float64{})) != 0 {
		t.Error("Sort of nothing")
	}
	r := rand.New(rand.NewPCG(16, 6))
	for range 200 {
		// Some stand there more than once.
		want := slices.Insert(rising(), 20, make([]float64, r.IntN(3))...)
		want = slices.Insert(want, 7, slices.Repeat([]float64{of(0xfff0000000000001)}, r.IntN(3))...)
		row := slices.Clone(want)
		r.Shuffle(len(row), func(i, j int) { row[i], row[j] = row[j], row[i] })
		before := digitsOf(row)
		got := gauge.Sort(row)
		if !slices.Equal(digitsOf(got), digitsOf(want)) {
			t.Fatalf("Sort(%v): %v", row, got)
		}
		for i := range got {
			got[i] = 77
		}
		if !slices.Equal(digitsOf(row), before) {
			t.Fatalf("%v was changed by Sort, or is shared", row)
		}
	}
}

// P16.4: neither Sort nor Middle reads or writes what lies behind a list.
func TestBehindAList(t *testing.T) {
	row := []float64{3, 1, 2, -9, -8}
	if got := gauge.Sort(row[:3]); !slices.Equal(got, []float64{1, 2, 3}) {
		t.Errorf("Sort: %v", got)
	}
	if got, e := gauge.Middle(row[:3]); got != 2 || e != api.OK {
		t.Errorf("Middle: %v %v", got, e)
	}
	_ = append(gauge.Sort(row[:3]), 5)
	if !slices.Equal(row, []float64{3, 1, 2, -9, -8}) {
		t.Errorf("changed: %v", row)
	}
}

// P16.4: Middle of an odd and an even number of those that count.
func TestMiddle(t *testing.T) {
	minus, nan, inf := negative(), math.NaN(), math.Inf(1)
	for _, c := range []struct {
		l    []float64
		want float64
	}{
		{[]float64{5}, 5},
		{[]float64{minus}, minus},
		{[]float64{0, minus}, minus},
		{[]float64{0, minus, 0}, 0},
		{[]float64{minus, 0, minus}, minus},
		{[]float64{2, 1}, 1},
		{[]float64{3, 1, 2}, 2},
		{[]float64{4, 3, 2, 1}, 2},
		{[]float64{1, 5, 4, 2, 3}, 3},
		{[]float64{6, 1, 5, 4, 2, 3}, 3},
		{[]float64{7, 7, 1, 7}, 7},
		{[]float64{nan, 5, inf}, 5},
		{[]float64{inf, inf, inf, 2, 1}, 1},
		{[]float64{-inf, -inf, -inf, 3, 1, 2}, 2},
		{[]float64{of(1<<64 - 1), 9, nan, -9, -inf, 0, inf}, 0},
		{[]float64{math.MaxFloat64, -math.MaxFloat64, 1}, 1},
		{[]float64{-1, -3, -2, -4}, -3},
	} {
		before := digitsOf(c.l)
		got, e := gauge.Middle(c.l)
		is(t, "Middle", got, c.want)
		if e != api.OK || !slices.Equal(digitsOf(c.l), before) {
			t.Errorf("Middle: %v, %v", e, c.l)
		}
	}
}

// P16.4: lists in which none counts.
func TestMiddleOfNone(t *testing.T) {
	for _, l := range [][]float64{nil, {}, {math.NaN()}, {math.Inf(1)}, {math.Inf(-1)}, {math.Inf(1), math.NaN(), math.Inf(-1)}, wrong()} {
		got, e := gauge.Middle(l)
		is(t, "Middle of none", got, 0)
		if e != api.ErrNone {
			t.Errorf("Middle(%v): %v", l, e)
		}
	}
}

// P16.4: of those that count as many stand ahead of the middle one as behind, or one fewer.
func TestMiddleOfMany(t *testing.T) {
	r := rand.New(rand.NewPCG(16, 7))
	for range 1000 {
		seen, row := map[uint64]bool{}, []float64(nil)
		for range r.IntN(30) {
			if x := some(r); !seen[math.Float64bits(x)] {
				seen[math.Float64bits(x)] = true
				row = append(row, x)
			}
		}
		got, e := gauge.Middle(row)
		// How many stand ahead of it, at it and behind it.
		var places [3]int
		for _, x := range row {
			if gauge.Counts(x) {
				places[1+gauge.Order(x, got)]++
			}
		}
		if places == [3]int{} {
			if e != api.ErrNone {
				t.Fatalf("Middle(%v): %v %v", row, got, e)
			}
			continue
		}
		if more := places[2] - places[0]; e != api.OK || places[1] != 1 || more != 0 && more != 1 {
			t.Fatalf("Middle(%v): %v %v", row, got, e)
		}
	}
}
