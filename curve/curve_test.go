package curve_test

import (
	"crypto/ecdh"
	"math/big"
	"testing"

	"adit/api"
	"adit/curve"
	"adit/words"
)

// prime is 2^255 - 19.
func prime() *big.Int {
	return new(big.Int).Sub(new(big.Int).Lsh(big.NewInt(1), 255), big.NewInt(19))
}

// bytesOf is the bytes of a number below 2^256, the least first.
func bytesOf(n *big.Int) [32]byte {
	var out [32]byte
	for i, b := range n.FillBytes(make([]byte, 32)) {
		out[31-i] = b
	}
	return out
}

// about is the bytes of the prime with d more.
func about(d int64) [32]byte { return bytesOf(new(big.Int).Add(prime(), big.NewInt(d))) }

// numberOf is the number of bytes, the least first.
func numberOf(a [32]byte) *big.Int {
	n := new(big.Int)
	for i := range 32 {
		n.Add(n.Lsh(n, 8), big.NewInt(int64(a[31-i])))
	}
	return n
}

// digits is the bytes of digits.
func digits(t *testing.T, s string) [32]byte {
	t.Helper()
	b, f := words.Unhex(s)
	if f != (api.Fault{}) || len(b) != 32 {
		t.Fatalf("no 32 bytes: %q %v", s, f)
	}
	return [32]byte(b)
}

// row is ordinary bytes, unlike for each n.
func row(n int) [32]byte {
	var out [32]byte
	for i := range out {
		out[i] = byte((n+3)*(i+5)*(i+n+11)/3 + n)
	}
	return out
}

// full is bytes of 255.
func full() [32]byte {
	var out [32]byte
	for i := range out {
		out[i] = 255
	}
	return out
}

// mod is a sum, a difference or a product, modulo the prime.
func mod(n *big.Int) *big.Int { return n.Mod(n, prime()) }

func plus(a, b *big.Int) *big.Int  { return mod(new(big.Int).Add(a, b)) }
func minus(a, b *big.Int) *big.Int { return mod(new(big.Int).Sub(a, b)) }
func times(a, b *big.Int) *big.Int { return mod(new(big.Int).Mul(a, b)) }

// wanted is what the ladder tells, as the chapter's words have it.
func wanted(secret, place [32]byte) [32]byte {
	secret[0] = secret[0] / 8 * 8
	secret[31] = secret[31]%64 + 64
	place[31] %= 128
	k, x1 := numberOf(secret), mod(numberOf(place))
	x2, z2, x3, z3 := big.NewInt(1), big.NewInt(0), x1, big.NewInt(1)
	for at := 254; at >= 0; at-- {
		if k.Bit(at) == 1 {
			x2, z2, x3, z3 = x3, z3, x2, z2
		}
		a, b, c, d := plus(x2, z2), minus(x2, z2), plus(x3, z3), minus(x3, z3)
		da, cb, aa, bb := times(d, a), times(c, b), times(a, a), times(b, b)
		e := minus(aa, bb)
		x3, z3 = times(plus(da, cb), plus(da, cb)), times(x1, times(minus(da, cb), minus(da, cb)))
		x2, z2 = times(aa, bb), times(e, plus(aa, times(big.NewInt(121665), e)))
		if k.Bit(at) == 1 {
			x2, z2, x3, z3 = x3, z3, x2, z2
		}
	}
	if z2.Sign() == 0 {
		return [32]byte{}
	}
	return bytesOf(times(x2, new(big.Int).ModInverse(z2, prime())))
}

// another is what another program makes of a secret and a place: 0, where it refuses them.
func another(t *testing.T, secret, place [32]byte) [32]byte {
	t.Helper()
	s, err := ecdh.X25519().NewPrivateKey(secret[:])
	if err != nil {
		t.Fatal(err)
	}
	p, err := ecdh.X25519().NewPublicKey(place[:])
	if err != nil {
		t.Fatal(err)
	}
	out, err := s.ECDH(p)
	if err != nil {
		return [32]byte{}
	}
	return [32]byte(out)
}

// secrets are secrets at their edges, and ordinary ones.
func secrets() [][32]byte {
	return [][32]byte{{}, full(), {7}, {8}, {31: 63}, {31: 64}, {31: 128}, {31: 191}, {248, 31: 127}, row(0), row(1), row(2)}
}

// places are places at their edges, and ordinary ones.
func places() [][32]byte {
	return [][32]byte{
		{}, {1}, {2}, {9}, {18}, {19}, {20}, {31: 64}, {31: 127}, {31: 128}, {9, 31: 128}, about(-2), about(-1), about(0), about(1), about(2), about(9), about(18), full(),
		row(3), row(4), row(5), row(6),
	}
}

// nowhere are the places of which comes 0: 0, 1, the prime less 1, two more, and what is taken as they are.
func nowhere(t *testing.T) [][32]byte {
	t.Helper()
	out := [][32]byte{
		{}, {1}, about(-1), about(0), about(1),
		digits(t, "e0eb7a7c3b41b8ae1656e3faf19fc46ada098deb9c32b1fd866205165f49b800"),
		digits(t, "5f9c95bca3508c24b1d0b1559c83ef5b04445cc4581c8e86d8224eddd09f1157"),
	}
	for _, p := range out {
		p[31] |= 128
		out = append(out, p)
	}
	return out
}

// P6.1: the secret's number, digit by digit.
func TestClamp(t *testing.T) {
	if got := curve.Clamp([32]byte{}); got != [32]byte{31: 64} {
		t.Errorf("Clamp of noughts: %v", got)
	}
	for i := range 32 {
		for bit := range 8 {
			var a [32]byte
			a[i] = 1 << bit
			want := [32]byte{31: 64}
			lost := i == 0 && bit < 3 || i == 31 && bit == 7
			if !lost {
				want[i] |= 1 << bit
			}
			if got := curve.Clamp(a); got != want {
				t.Errorf("digit %d of byte %d: %v", bit, i, got)
			}
			b := full()
			b[i] -= 1 << bit
			want = full()
			want[0], want[31] = 248, 127
			if !lost && (i != 31 || bit != 6) {
				want[i] -= 1 << bit
			}
			if got := curve.Clamp(b); got != want {
				t.Errorf("all but digit %d of byte %d: %v", bit, i, got)
			}
		}
	}
}

// P6.1: what the ladder tells, by great numbers.
func TestMulByGreatNumbers(t *testing.T) {
	for _, s := range secrets() {
		for _, p := range places() {
			if got, want := curve.Mul(s, p), wanted(s, p); got != want {
				t.Errorf("Mul of %x and %x: %x, not %x", s, p, got, want)
			}
		}
	}
}

// P6.1: each digit of the secret and of the place.
func TestMulOfEachDigit(t *testing.T) {
	for i := range 256 {
		var s [32]byte
		s[i/8] = 1 << (i % 8)
		if got, want := curve.Mul(s, row(7)), another(t, s, row(7)); got != want {
			t.Errorf("digit %d of the secret: %x, not %x", i, got, want)
		}
		if got, want := curve.Mul(row(8), s), another(t, row(8), s); got != want {
			t.Errorf("digit %d of the place: %x, not %x", i, got, want)
		}
	}
}

// P6.1, P6.2: what another program makes of the same.
func TestAgainstAnother(t *testing.T) {
	all := append(places(), nowhere(t)...)
	for n := range 100 {
		all = append(all, row(n))
	}
	for i, p := range all {
		s := row(2*i + 1)
		want, code := another(t, s, p), api.OK
		if want == ([32]byte{}) {
			code = api.ErrZero
		}
		if got, e := curve.Shared(s, p); got != want || e != code {
			t.Errorf("Shared of %x and %x: %x %v, not %x", s, p, got, e, want)
		}
		if got := curve.Public(s); got != another(t, s, [32]byte{9}) {
			t.Errorf("Public of %x: %x", s, got)
		}
	}
}

// P6.1: what is published (RFC 7748, 5.2).
func TestPublishedPlaces(t *testing.T) {
	for _, c := range []struct{ secret, place, want string }{
		{"a546e36bf0527c9d3b16154b82465edd62144c0ac1fc5a18506a2244ba449ac4", "e6db6867583030db3594c1a424b15f7c726624ec26b3353b10a903a6d0ab1c4c", "c3da55379de9c6908e94ea4df28d084f32eccf03491c71f754b4075577a28552"},
		{"4b66e9d4d1b4673c5ad22691957d6af5c11b6421e0ea01d42ca4169e7918ba0d", "e5210f12786811d3f4b7959d0538ae2c31dbe7106fc03c3efc4cd549c715a493", "95cbde9476e8907d7aade45cb4b873f88b595a68799fa152e6f8f7647aac7957"},
	} {
		if got := curve.Mul(digits(t, c.secret), digits(t, c.place)); got != digits(t, c.want) {
			t.Errorf("%s and %s: %x", c.secret, c.place, got)
		}
	}
}

// P6.1: a secret and a place that follow each other a thousand times, as published (RFC 7748, 5.2).
func TestPublishedRow(t *testing.T) {
	secret, place := [32]byte{9}, [32]byte{9}
	for i := range 1000 {
		secret, place = curve.Mul(secret, place), secret
		if i == 0 && secret != digits(t, "422c8e7a6227d7bca1350b3e2bb7279f7897b87bb6854b783c60e80311ae3079") {
			t.Errorf("once: %x", secret)
		}
	}
	if secret != digits(t, "684cf59ba83309552800ef566f2f4d3c1c3887c49360e3875f2eb94d99532c51") {
		t.Errorf("a thousand times: %x", secret)
	}
}

// P6.1, P6.3: two who agree, as published (RFC 7748, 6.1).
func TestPublishedTwo(t *testing.T) {
	one := digits(t, "77076d0a7318a57d3c16c17251b26645df4c2f87ebc0992ab177fba51db92c2a")
	two := digits(t, "5dab087e624a8a4b79e17f8b83800ee66f3bb1292618b6fd1c2f8b27ff88e0eb")
	onePublic, twoPublic := curve.Public(one), curve.Public(two)
	if onePublic != digits(t, "8520f0098930a754748b7ddcb43ef75a0dbf3a0d26381af4eba4a98eaa9b4e6a") {
		t.Errorf("one's public bytes: %x", onePublic)
	}
	if twoPublic != digits(t, "de9edb7d7b7dc1b4d35b61c2ece435373f8343c85b78674dadfc7e146f882b4f") {
		t.Errorf("two's public bytes: %x", twoPublic)
	}
	want := digits(t, "4a5d9d5ba4ce2de1728e3bf480350f25e07e21c947d19e3376f09b3c1e161742")
	if got, e := curve.Shared(one, twoPublic); got != want || e != api.OK {
		t.Errorf("one's: %x %v", got, e)
	}
	if got, e := curve.Shared(two, onePublic); got != want || e != api.OK {
		t.Errorf("two's: %x %v", got, e)
	}
}

// P6.1: Public is Mul with the place 9.
func TestPublic(t *testing.T) {
	for _, s := range secrets() {
		if got := curve.Public(s); got != curve.Mul(s, [32]byte{9}) || got != wanted(s, [32]byte{9}) {
			t.Errorf("Public of %x: %x", s, got)
		}
	}
}

// P6.2: Shared is Mul, where that is not 0.
func TestShared(t *testing.T) {
	zeros := map[[32]byte]int{}
	for _, p := range nowhere(t) {
		zeros[p]++
	}
	for _, s := range secrets() {
		for _, p := range append(places(), nowhere(t)...) {
			got, e := curve.Shared(s, p)
			want, code := curve.Mul(s, p), api.OK
			if zeros[p] > 0 {
				want, code = [32]byte{}, api.ErrZero
			}
			if got != want || e != code {
				t.Errorf("Shared of %x and %x: %x %v", s, p, got, e)
			}
		}
	}
}

// P6.2: what has a byte 0, wherever, is not 0.
func TestSharedWithNoughts(t *testing.T) {
	for i, n := range []int{
		340, 74, 238, 360, 195, 297, 271, 419, 23, 372, 339, 953, 21, 296, 197, 88,
		43, 287, 181, 230, 150, 437, 249, 156, 213, 307, 510, 99, 105, 40, 95, 625,
	} {
		secret := [32]byte{byte(8 * n), byte(8 * n >> 8)}
		got, e := curve.Shared(secret, [32]byte{9})
		if got != curve.Mul(secret, [32]byte{9}) || got[i] != 0 || e != api.OK {
			t.Errorf("Shared of %x: %x %v", secret, got, e)
		}
	}
}

// P6.3: both agree.
func TestBothAgree(t *testing.T) {
	all := secrets()
	for n := range 20 {
		all = append(all, row(10+n))
	}
	for i, a := range all {
		b := all[(5*i+3)%len(all)]
		one, e := curve.Shared(a, curve.Public(b))
		two, f := curve.Shared(b, curve.Public(a))
		if one != two || e != api.OK || f != api.OK || one == ([32]byte{}) {
			t.Errorf("%x and %x: %x %v, %x %v", a, b, one, e, two, f)
		}
	}
}

// P6.3: three who hand on what they make agree, in whatever order.
func TestThreeAgree(t *testing.T) {
	a, b, c := row(40), row(41), row(42)
	want := curve.Mul(c, curve.Mul(b, curve.Public(a)))
	if curve.Mul(a, curve.Mul(c, curve.Public(b))) != want || curve.Mul(b, curve.Mul(a, curve.Public(c))) != want {
		t.Error("three do not agree")
	}
}

// P6.4: of the places 0 and 1, and the prime less 1, comes 0.
func TestNowhere(t *testing.T) {
	for _, s := range append(secrets(), row(20), row(21)) {
		for _, p := range nowhere(t) {
			if got := curve.Mul(s, p); got != ([32]byte{}) {
				t.Errorf("Mul of %x and %x: %x", s, p, got)
			}
		}
	}
}

// P6.4: the digit that does not count, and the prime more, are of no matter.
func TestWhatIsOfNoMatter(t *testing.T) {
	for _, s := range secrets() {
		for _, p := range places() {
			q := p
			q[31] ^= 128
			if curve.Mul(s, p) != curve.Mul(s, q) {
				t.Errorf("the greatest digit of %x counts", p)
			}
		}
		for d := range 19 {
			want := curve.Mul(s, [32]byte{byte(d)})
			if got := curve.Mul(s, about(int64(d))); got != want {
				t.Errorf("the prime and %d: %x, not %x", d, got, want)
			}
		}
	}
}

// P6.4: the digits of a secret that do not count are of no matter.
func TestSecretsOfOneNumber(t *testing.T) {
	for _, s := range secrets() {
		want := curve.Mul(s, row(9))
		for _, c := range []struct {
			at   int
			flip byte
		}{{0, 1}, {0, 2}, {0, 4}, {31, 64}, {31, 128}} {
			other := s
			other[c.at] ^= c.flip
			if curve.Mul(other, row(9)) != want {
				t.Errorf("digit %d of byte %d of %x counts", c.flip, c.at, s)
			}
		}
	}
}
