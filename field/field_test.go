package field_test

import (
	"math"
	"math/big"
	"testing"

	"adit/field"
)

// power is 2^n.
func power(n int) *big.Int { return new(big.Int).Lsh(big.NewInt(1), uint(n)) }

// off is n with d more.
func off(n *big.Int, d int64) *big.Int { return new(big.Int).Add(n, big.NewInt(d)) }

// prime is 2^255 - 19.
func prime() *big.Int { return off(power(255), -19) }

// bytesOf is the bytes of a number below 2^256, the least first.
func bytesOf(n *big.Int) [32]byte {
	var out [32]byte
	for i, b := range n.FillBytes(make([]byte, 32)) {
		out[31-i] = b
	}
	return out
}

// numberOf is the number of all 256 digits of bytes, the least first.
func numberOf(a [32]byte) *big.Int {
	n := new(big.Int)
	for i := range 32 {
		n.Add(n.Lsh(n, 8), big.NewInt(int64(a[31-i])))
	}
	return n
}

// taken is the number that is taken of bytes, as the chapter tells it.
func taken(a [32]byte) *big.Int {
	a[31] %= 128
	return told(numberOf(a))
}

// told is the number from 0 to the prime less 1.
func told(n *big.Int) *big.Int { return new(big.Int).Mod(n, prime()) }

// row is ordinary bytes, unlike for each n.
func row(n int) [32]byte {
	var out [32]byte
	for i := range out {
		out[i] = byte((n+3)*(i+5)*(i+n+11)/3 + n)
	}
	return out
}

// few are bytes at the edges of the prime and of the digits, and ordinary ones.
func few() [][32]byte {
	p := prime()
	out := [][32]byte{row(0), row(1), row(2), row(3)}
	for _, n := range []*big.Int{
		big.NewInt(0), big.NewInt(1), big.NewInt(2), big.NewInt(18), big.NewInt(19), big.NewInt(20),
		off(p, -2), off(p, -1), p, off(p, 1), off(p, 2), off(p, 18), power(254), off(power(254), -1), off(power(254), -10),
		power(255), off(power(255), 1), off(power(255), 19), new(big.Int).Add(power(255), p), off(power(256), -20), off(power(256), -19), off(power(256), -1),
	} {
		out = append(out, bytesOf(n))
	}
	return out
}

// many are few, and those about each place where a limb of 51 or of 26 and 25 digits, a word or a byte might end, alone and with all digits above.
func many() [][32]byte {
	out := few()
	for _, n := range []int{8, 25, 26, 32, 51, 64, 77, 96, 102, 127, 128, 153, 160, 178, 192, 204, 224, 230, 248, 252, 253} {
		for _, d := range []int64{-20, -19, -1, 0, 1} {
			out = append(out, bytesOf(off(power(n), d)))
		}
		high := new(big.Int).Sub(power(255), power(n))
		out = append(out, bytesOf(high), bytesOf(off(high, -1)), bytesOf(off(high, -19)), bytesOf(off(high, 18)))
	}
	return out
}

// check holds what came against the number that is wanted.
func check(t *testing.T, what string, got [32]byte, want *big.Int, from ...[32]byte) {
	t.Helper()
	if got != bytesOf(told(want)) {
		t.Fatalf("%s of %x: %x, not %x", what, from, got, bytesOf(told(want)))
	}
}

// P5.1: what is taken and told, the greatest digit left out.
func TestReduce(t *testing.T) {
	for _, a := range many() {
		check(t, "Reduce", field.Reduce(a), taken(a), a)
		check(t, "Bytes", field.Take(a).Bytes(), taken(a), a)
	}
	for i := range 256 {
		a := bytesOf(power(i))
		check(t, "Reduce", field.Reduce(a), taken(a), a)
	}
	if field.Reduce(bytesOf(power(255))) != ([32]byte{}) {
		t.Error("the greatest digit counts")
	}
}

// P5.1: each number from the prime to 2^255 - 1 is told below 19.
func TestReduceAboutThePrime(t *testing.T) {
	for d := range 19 {
		a := bytesOf(off(prime(), int64(d)))
		if got := field.Reduce(a); got != [32]byte{byte(d)} {
			t.Errorf("the prime and %d: %x", d, got)
		}
		a[31] |= 128
		if got := field.Reduce(a); got != [32]byte{byte(d)} {
			t.Errorf("the prime and %d, with the greatest digit: %x", d, got)
		}
	}
}

// P5.1: the chapter's examples.
func TestExamples(t *testing.T) {
	last := [32]byte{236, 31: 127}
	for i := range 30 {
		last[1+i] = 255
	}
	p := last
	p[0] = 237
	if got := field.Reduce(p); got != ([32]byte{}) {
		t.Errorf("the prime: %v", got)
	}
	if got := field.Sub([32]byte{}, [32]byte{1}); got != last {
		t.Errorf("0 less 1: %v", got)
	}
}

// P5.1: sums, differences and products of all pairs.
func TestSumsAndProducts(t *testing.T) {
	all := many()
	for _, a := range all {
		x := taken(a)
		for _, b := range all {
			y := taken(b)
			check(t, "Add", field.Add(a, b), new(big.Int).Add(x, y), a, b)
			check(t, "Sub", field.Sub(a, b), new(big.Int).Sub(x, y), a, b)
			check(t, "Mul", field.Mul(a, b), new(big.Int).Mul(x, y), a, b)
		}
	}
}

// halves are elements whose product with b lies about the prime: what b's inverse makes of each number there.
func halves(b *big.Int) [][32]byte {
	over := new(big.Int).ModInverse(b, prime())
	var out [][32]byte
	for d := int64(-40); d <= 40; d++ {
		out = append(out, bytesOf(told(new(big.Int).Mul(over, big.NewInt(d)))))
	}
	return out
}

// P5.1: products that come to the numbers about 0 and about the prime.
func TestProductsAboutThePrime(t *testing.T) {
	for n := range 20 {
		b := row(n)
		for _, a := range halves(taken(b)) {
			check(t, "Mul", field.Mul(a, b), new(big.Int).Mul(taken(a), taken(b)), a, b)
		}
	}
	for _, n := range smalls()[1:] {
		for _, a := range halves(new(big.Int).SetUint64(uint64(n))) {
			check(t, "Small", field.Small(a, n), new(big.Int).Mul(taken(a), new(big.Int).SetUint64(uint64(n))), a)
		}
	}
}

// smalls are small numbers, at their edges too.
func smalls() []uint32 {
	return []uint32{0, 1, 2, 18, 19, 20, 121665, 1 << 16, 1<<16 - 1, 1<<26 - 1, 1 << 26, 1 << 31, 1<<31 - 1, math.MaxUint32 - 1, math.MaxUint32}
}

// P5.1: products with small numbers.
func TestSmall(t *testing.T) {
	for _, a := range many() {
		for _, n := range smalls() {
			check(t, "Small", field.Small(a, n), new(big.Int).Mul(taken(a), new(big.Int).SetUint64(uint64(n))), a)
		}
	}
}

// P5.1: what is taken 0, and what is not.
func TestZero(t *testing.T) {
	for _, a := range many() {
		if got, want := field.Zero(a), taken(a).Sign() == 0; got != want {
			t.Errorf("Zero of %x: %v", a, got)
		}
	}
	for i := range 255 {
		if field.Zero(bytesOf(power(i))) {
			t.Errorf("2^%d is 0", i)
		}
	}
	p := prime()
	for _, n := range []*big.Int{big.NewInt(0), p, power(255), new(big.Int).Add(p, power(255))} {
		if !field.Zero(bytesOf(n)) {
			t.Errorf("%v is not 0", n)
		}
	}
}

// exponents are exponents at the edges.
func exponents() [][32]byte {
	out := few()
	for _, i := range []int{3, 7, 8, 63, 64, 127, 128, 200, 247, 248, 254} {
		out = append(out, bytesOf(power(i)))
	}
	return out
}

// P5.2: powers, with all 256 digits of the exponent.
func TestPower(t *testing.T) {
	for _, a := range few() {
		for _, e := range exponents() {
			check(t, "Power", field.Power(a, e), new(big.Int).Exp(taken(a), numberOf(e), prime()), a, e)
		}
	}
}

// P5.2: each digit of the exponent by itself.
func TestPowerOfEachDigit(t *testing.T) {
	a := row(4)
	want := taken(a)
	for i := range 256 {
		check(t, "Power", field.Power(a, bytesOf(power(i))), want, a)
		want = told(new(big.Int).Mul(want, want))
	}
}

// P5.2: to the power of 0 all is 1, and 0 is 0 to each other one.
func TestPowerOfNothing(t *testing.T) {
	for _, a := range many() {
		if got := field.Power(a, [32]byte{}); got != [32]byte{1} {
			t.Errorf("%x to 0: %x", a, got)
		}
	}
	for _, e := range exponents() {
		if got := field.Power([32]byte{}, e); numberOf(e).Sign() > 0 && got != ([32]byte{}) {
			t.Errorf("0 to %x: %x", e, got)
		}
	}
}

// P5.2: inverses, and 0 of 0, in whatever way it is told.
func TestInvert(t *testing.T) {
	for _, a := range many() {
		want := new(big.Int)
		if x := taken(a); x.Sign() > 0 {
			want.ModInverse(x, prime())
		}
		check(t, "Invert", field.Invert(a), want, a)
	}
	p := prime()
	for _, n := range []*big.Int{big.NewInt(0), p, power(255), new(big.Int).Add(p, power(255))} {
		if got := field.Invert(bytesOf(n)); got != ([32]byte{}) {
			t.Errorf("the inverse of %v: %x", n, got)
		}
	}
}

// P5.3: elements reckon as bytes do, and are what is taken of what comes.
func TestElements(t *testing.T) {
	all := many()
	for i, a := range all {
		x := field.Take(a)
		b := all[(7*i+3)%len(all)]
		y := field.Take(b)
		for _, c := range []struct {
			what string
			got  field.Element
			want [32]byte
		}{
			{"Plus", x.Plus(y), field.Add(a, b)}, {"Minus", x.Minus(y), field.Sub(a, b)}, {"Times", x.Times(y), field.Mul(a, b)},
			{"Little", x.Little(uint32(i) * 9999991), field.Small(a, uint32(i)*9999991)}, {"Over", x.Over(), field.Invert(a)},
		} {
			if c.got.Bytes() != c.want || c.got != field.Take(c.want) {
				t.Errorf("%s of %x and %x: %x, not %x", c.what, a, b, c.got.Bytes(), c.want)
			}
		}
		if x.Bytes() != field.Reduce(a) || y.Bytes() != field.Reduce(b) {
			t.Errorf("%x and %x are changed", a, b)
		}
	}
}

// P5.3: elements stay right over many steps, told in between or not.
func TestElementsOverManySteps(t *testing.T) {
	x, y := field.Take(row(5)), field.Take(row(6))
	v, w := taken(row(5)), taken(row(6))
	for i := range 2000 {
		x, y = x.Times(y).Plus(x), x.Little(121665+uint32(i)).Minus(y)
		next := told(new(big.Int).Add(new(big.Int).Mul(v, w), v))
		v, w = next, told(new(big.Int).Sub(new(big.Int).Mul(v, big.NewInt(121665+int64(i))), w))
		check(t, "x", x.Bytes(), v)
		check(t, "y", y.Bytes(), w)
	}
}

// P5.3: an element that no call made is 0.
func TestElementOfNoCall(t *testing.T) {
	var none field.Element
	one := field.Take([32]byte{1})
	if none.Bytes() != ([32]byte{}) || none != field.Take(bytesOf(prime())) {
		t.Errorf("no call's: %x", none.Bytes())
	}
	for _, a := range few() {
		x := field.Take(a)
		if x.Plus(none) != x || none.Plus(x) != x || x.Minus(none) != x || x.Times(none) != none || none.Times(x) != none {
			t.Errorf("%x and no call's", a)
		}
		if none.Minus(x).Bytes() != field.Sub([32]byte{}, a) {
			t.Errorf("no call's less %x", a)
		}
	}
	if none.Little(math.MaxUint32) != none || none.Over() != none || none.Plus(one) != one {
		t.Error("no call's: Little, Over, Plus")
	}
}

// P5.4: sums and products do not hang on their order, nor on how they are put together.
func TestOrder(t *testing.T) {
	all := few()
	for _, a := range all {
		for _, b := range all {
			if field.Add(a, b) != field.Add(b, a) || field.Mul(a, b) != field.Mul(b, a) {
				t.Errorf("the order of %x and %x", a, b)
			}
			for _, c := range all {
				if field.Add(field.Add(a, b), c) != field.Add(a, field.Add(b, c)) {
					t.Errorf("sums of %x, %x and %x", a, b, c)
				}
				if field.Mul(field.Mul(a, b), c) != field.Mul(a, field.Mul(b, c)) {
					t.Errorf("products of %x, %x and %x", a, b, c)
				}
				if field.Mul(a, field.Add(b, c)) != field.Add(field.Mul(a, b), field.Mul(a, c)) {
					t.Errorf("the product of %x with the sum of %x and %x", a, b, c)
				}
			}
		}
	}
}

// P5.5: what is added is taken away again, and what is not 0 times its inverse is 1.
func TestThereAndBack(t *testing.T) {
	all := many()
	for i, a := range all {
		b := all[(5*i+1)%len(all)]
		if field.Sub(field.Add(a, b), b) != field.Reduce(a) || field.Add(field.Sub(a, b), b) != field.Reduce(a) {
			t.Errorf("%x with %x and without", a, b)
		}
		if field.Sub(a, a) != ([32]byte{}) || field.Add(field.Sub([32]byte{}, a), a) != ([32]byte{}) {
			t.Errorf("%x less itself", a)
		}
		one := [32]byte{1}
		if field.Zero(a) {
			one = [32]byte{}
		}
		if over := field.Invert(a); field.Mul(a, over) != one || field.Invert(over) != field.Reduce(a) {
			t.Errorf("%x times its inverse", a)
		}
	}
}

// P5.6: powers of a sum of exponents are products.
func TestPowersOfSums(t *testing.T) {
	all := exponents()
	for i, e := range all {
		f := all[(3*i+2)%len(all)]
		// Halved, so that the sum of both has no more than 256 digits.
		e, f := bytesOf(new(big.Int).Rsh(numberOf(e), 1)), bytesOf(new(big.Int).Rsh(numberOf(f), 1))
		sum := bytesOf(new(big.Int).Add(numberOf(e), numberOf(f)))
		for _, a := range few() {
			if field.Power(a, sum) != field.Mul(field.Power(a, e), field.Power(a, f)) {
				t.Errorf("%x to %x and to %x", a, e, f)
			}
		}
	}
}
