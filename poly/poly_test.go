package poly_test

import (
	"bytes"
	"math/big"
	"strings"
	"testing"

	"adit/api"
	"adit/poly"
	"adit/words"
)

// row is n bytes.
func row(n int) []byte {
	out := make([]byte, n)
	for i := range out {
		out[i] = byte(i*7 + i/256 + 1)
	}
	return out
}

// full is n bytes of 255.
func full(n int) []byte { return bytes.Repeat([]byte{255}, n) }

// keyOf is the key of both halves.
func keyOf(r, s []byte) [32]byte {
	var out [32]byte
	copy(out[:16], r)
	copy(out[16:], s)
	return out
}

// keys are keys at their edges, and ordinary ones.
func keys() [][32]byte {
	return [][32]byte{
		{}, {1}, {2}, {4: 4}, {15: 15}, {1, 16: 255}, keyOf(nil, full(16)), keyOf([]byte{1}, full(16)),
		keyOf(full(16), nil), keyOf(full(16), full(16)), keyOf(row(16), row(20)[4:]), keyOf(row(40)[24:], full(16)),
	}
}

// bytesOf is the bytes of digits with blanks between.
func bytesOf(t *testing.T, s string) []byte {
	t.Helper()
	b, f := words.Unhex(strings.ReplaceAll(s, " ", ""))
	if f != (api.Fault{}) {
		t.Fatalf("no digits: %q %v", s, f)
	}
	return b
}

// power is 2^n.
func power(n uint) *big.Int { return new(big.Int).Lsh(big.NewInt(1), n) }

// prime is 2^130 - 5.
func prime() *big.Int { return new(big.Int).Sub(power(130), big.NewInt(5)) }

// numberOf is the number of bytes, the least first.
func numberOf(b []byte) *big.Int {
	n := new(big.Int)
	for i := len(b) - 1; i >= 0; i-- {
		n.Add(n.Lsh(n, 8), big.NewInt(int64(b[i])))
	}
	return n
}

// lower is the sixteen lower bytes of a number.
func lower(n *big.Int) [16]byte {
	var out [16]byte
	rest := new(big.Int).Mod(n, power(128))
	for i := range out {
		out[i] = byte(new(big.Int).Rsh(rest, uint(8*i)).Uint64())
	}
	return out
}

// factor is r of a key, as the chapter tells it.
func factor(key [32]byte) *big.Int {
	b := bytes.Clone(key[:16])
	for _, i := range []int{3, 7, 11, 15} {
		b[i] %= 16
	}
	for _, i := range []int{4, 8, 12} {
		b[i] = b[i] / 4 * 4
	}
	return numberOf(b)
}

// wanted is the mark of a text, as the chapter tells it.
func wanted(key [32]byte, b []byte) [16]byte {
	r, h := factor(key), new(big.Int)
	for at := 0; at < len(b); at += 16 {
		piece := append(bytes.Clone(b[at:min(at+16, len(b))]), 1)
		h.Mod(h.Mul(h.Add(h, numberOf(piece)), r), prime())
	}
	return lower(h.Add(h, numberOf(key[16:])))
}

// filled is the parts, each with its bytes 0 behind it, one behind the other.
func filled(parts [][]byte) []byte {
	var out []byte
	for _, p := range parts {
		out = append(out, p...)
		for len(out)%16 != 0 {
			out = append(out, 0)
		}
	}
	return out
}

// P3.1: the bytes of r, digit by digit.
func TestClamp(t *testing.T) {
	lost := func(i, bit int) bool { return i%4 == 3 && bit >= 4 || i > 0 && i%4 == 0 && bit < 2 }
	for i := range 16 {
		for bit := range 8 {
			var key [32]byte
			key[i] = 1 << bit
			var want [16]byte
			if !lost(i, bit) {
				want[i] = 1 << bit
			}
			if got := poly.Clamp(key); got != want {
				t.Errorf("digit %d of byte %d: %v", bit, i, got)
			}
		}
	}
	all := [16]byte{255, 255, 255, 15, 252, 255, 255, 15, 252, 255, 255, 15, 252, 255, 255, 15}
	if got := poly.Clamp(keyOf(full(16), full(16))); got != all {
		t.Errorf("Clamp of all digits: %v", got)
	}
	if got := poly.Clamp(keyOf(nil, full(16))); got != [16]byte{} {
		t.Errorf("Clamp of s alone: %v", got)
	}
	for i, key := range keys() {
		if got := poly.Clamp(key); got != lower(factor(key)) || poly.Clamp(keyOf(got[:], nil)) != got {
			t.Errorf("Clamp of key %d: %v", i, got)
		}
	}
}

// P3.1: r counts as Clamp tells it, so that the digits that are made 0 do not.
func TestSumHangsOnTheClampedKey(t *testing.T) {
	for i, key := range keys() {
		r := poly.Clamp(key)
		if poly.Sum(key, row(50)) != poly.Sum(keyOf(r[:], key[16:]), row(50)) {
			t.Errorf("key %d: digits that are made 0 count", i)
		}
	}
}

// P3.1: marks that are published (RFC 8439, 2.5.2 and A.3).
func TestSum(t *testing.T) {
	const (
		zeros = "00000000000000000000000000000000"
		ones  = "ffffffffffffffffffffffffffffffff"
		one   = "01000000000000000000000000000000"
		two   = "02000000000000000000000000000000"
		mixed = "01000000000000000400000000000000"
		both  = "e33594d7505e43b90000000000000000 3394d7505e4379cd0100000000000000" + zeros
	)
	verse := "'Twas brillig, and the slithy toves\nDid gyre and gimble in the wabe:\nAll mimsy were the borogoves,\nAnd the mome raths outgrabe."
	for _, c := range []struct {
		key, text, want string
	}{
		{"85d6be7857556d337f4452fe42d506a80103808afb0db2fd4abff6af4149f51b", words.Hex([]byte("Cryptographic Forum Research Group")), "a8061dc1305136c6c22b8baf0c0127a9"},
		{zeros + zeros, strings.Repeat("00", 64), zeros},
		{"1c9240a5eb55d38af333888604f6b5f0473917c1402b80099dca5cbc207075c0", words.Hex([]byte(verse)), "4541669a7eaaee61e708dc7cbcc5eb62"},
		{two + zeros, ones, "03000000000000000000000000000000"},
		{two + ones, two, "03000000000000000000000000000000"},
		{one + zeros, ones + "f0ffffffffffffffffffffffffffffff" + "11000000000000000000000000000000", "05000000000000000000000000000000"},
		{one + zeros, ones + "fbfefefefefefefefefefefefefefefe" + "01010101010101010101010101010101", zeros},
		{two + zeros, "fdffffffffffffffffffffffffffffff", "faffffffffffffffffffffffffffffff"},
		{mixed + zeros, both + one, "14000000000000005500000000000000"},
		{mixed + zeros, both, "13000000000000000000000000000000"},
	} {
		var key [32]byte
		copy(key[:], bytesOf(t, c.key))
		got := poly.Sum(key, bytesOf(t, c.text))
		if words.Hex(got[:]) != c.want {
			t.Errorf("Sum with %s: %x, want %s", c.key, got, c.want)
		}
	}
	if got := poly.Sum([32]byte{1}, []byte{97}); got != [16]byte{97, 1} {
		t.Errorf("Sum of 97: %v", got)
	}
}

// P3.1: marks at each length about the pieces' edges, and far beyond the limit of texts.
func TestSumAtEachLength(t *testing.T) {
	lengths := []int{255, 256, 257, 1500, api.MaxText, api.MaxText + 1}
	for n := range 70 {
		lengths = append(lengths, n)
	}
	for i, key := range keys() {
		for _, n := range lengths {
			for _, b := range [][]byte{row(n), full(n), make([]byte, n)} {
				if got := poly.Sum(key, b); got != wanted(key, b) {
					t.Errorf("key %d, %d bytes: %x, want %x", i, n, got, wanted(key, b))
				}
			}
		}
	}
}

// P3.1: each digit of r, of s and of the text counts.
func TestSumHangsOnAll(t *testing.T) {
	key := keyOf(row(16), row(16))
	b := row(33)
	first := poly.Sum(key, b)
	for i := range 8 * len(b) {
		other := bytes.Clone(b)
		other[i/8] ^= 1 << (i % 8)
		if got := poly.Sum(key, other); got == first || got != wanted(key, other) {
			t.Errorf("digit %d of the text: %x", i, got)
		}
	}
	for i := range 256 {
		other := key
		other[i/8] ^= 1 << (i % 8)
		if got := poly.Sum(other, b); got != wanted(other, b) || (got == first) != (poly.Clamp(other) == poly.Clamp(key) && i < 128) {
			t.Errorf("digit %d of the key: %x", i, got)
		}
	}
}

// P3.1: a byte 0 more is another text, since a piece's byte 1 stands behind it.
func TestSumTellsLengthsApart(t *testing.T) {
	key := keyOf(row(16), row(16))
	seen := map[[16]byte]int{}
	for n := range 100 {
		m := poly.Sum(key, make([]byte, n))
		if other, ok := seen[m]; ok {
			t.Errorf("%d and %d bytes 0 have one mark", n, other)
		}
		seen[m] = n
	}
}

// P3.2: the mark of the parts that are filled up.
func TestBoth(t *testing.T) {
	if got := poly.Both([32]byte{1}, [][]byte{{97}}); got != [16]byte{97} {
		t.Errorf("Both of 97: %v", got)
	}
	for i, key := range keys() {
		for _, parts := range [][][]byte{
			nil, {}, {nil}, {{}, nil, {}}, {row(1)}, {row(15)}, {row(16)}, {row(17)}, {row(31)}, {row(32)}, {row(33)},
			{row(1), row(1)}, {row(16), row(16)}, {row(15), row(17), row(16)}, {nil, row(3), {}, full(40), nil}, {full(16), full(16), full(16), full(16)},
			{row(12), full(114), row(16)}, {row(api.MaxText), row(api.MaxText + 1), row(16)},
		} {
			if got := poly.Both(key, parts); got != wanted(key, filled(parts)) || got != poly.Sum(key, filled(parts)) {
				t.Errorf("key %d, %d parts: %x, want %x", i, len(parts), got, wanted(key, filled(parts)))
			}
		}
	}
}

// P3.2: parts of lengths about the pieces' edges, two at a time.
func TestBothAtEachLength(t *testing.T) {
	key := keyOf(row(16), full(16))
	for n := range 36 {
		for m := range 36 {
			parts := [][]byte{row(n), full(m)}
			if got := poly.Both(key, parts); got != wanted(key, filled(parts)) {
				t.Errorf("%d and %d bytes: %x", n, m, got)
			}
		}
	}
}

// P3.2: where parts of full pieces end does not count, where others end does.
func TestBothHangsOnWhereThePartsEnd(t *testing.T) {
	key := keyOf(row(16), row(16))
	b := row(64)
	if poly.Both(key, [][]byte{b[:16], b[16:]}) != poly.Both(key, [][]byte{b}) || poly.Both(key, [][]byte{b}) != poly.Sum(key, b) {
		t.Error("full pieces are not as the whole")
	}
	if poly.Both(key, [][]byte{b[:8], b[8:]}) == poly.Both(key, [][]byte{b}) {
		t.Error("a part is not filled up")
	}
	if poly.Both(key, [][]byte{b[:16], b[16:32]}) == poly.Both(key, [][]byte{b[16:32], b[:16]}) {
		t.Error("the parts' order does not count")
	}
}

// P3.3: with r 0 it is s.
func TestFactorNought(t *testing.T) {
	for n := range 50 {
		for _, s := range [][]byte{make([]byte, 16), row(16), full(16)} {
			want := [16]byte(s)
			// Digits that are made 0 leave r 0 too.
			for _, r := range [][]byte{nil, {3: 0xf0, 4: 3, 7: 0x10, 15: 0x80}} {
				if got := poly.Sum(keyOf(r, s), full(n)); got != want {
					t.Errorf("Sum of %d: %x, want %x", n, got, want)
				}
				if got := poly.Both(keyOf(r, s), [][]byte{full(n), row(n)}); got != want {
					t.Errorf("Both of %d: %x, want %x", n, got, want)
				}
			}
		}
	}
	if got := poly.Sum(keyOf(full(16), row(16)), nil); got != [16]byte(row(16)) {
		t.Errorf("Sum of nothing: %x", got)
	}
	if got := poly.Both(keyOf(full(16), row(16)), nil); got != [16]byte(row(16)) {
		t.Errorf("Both of nothing: %x", got)
	}
}

// P3.3: with r 1 and s 0 it is the sum of the pieces' numbers, modulo the prime, and then 2^128.
func TestFactorOne(t *testing.T) {
	for n := range 200 {
		for _, b := range [][]byte{row(n), full(n), make([]byte, n)} {
			sum := new(big.Int)
			for at := 0; at < n; at += 16 {
				sum.Add(sum, numberOf(append(bytes.Clone(b[at:min(at+16, n)]), 1)))
			}
			if got := poly.Sum([32]byte{1}, b); got != lower(sum.Mod(sum, prime())) {
				t.Errorf("%d bytes: %x", n, got)
			}
		}
	}
}

// P3.3: sums just below the prime, the prime itself, and just above it.
func TestAboutThePrime(t *testing.T) {
	for k := int64(-40); k <= 40; k++ {
		// Three pieces of sixteen bytes have 3 times 2^128 of their bytes 1; the rest stands in the bytes.
		rest := new(big.Int).Add(new(big.Int).Sub(prime(), new(big.Int).Mul(power(128), big.NewInt(3))), big.NewInt(k))
		var b []byte
		for range 3 {
			piece := rest
			if most := new(big.Int).Sub(power(128), big.NewInt(1)); rest.Cmp(most) > 0 {
				piece = most
			}
			rest = new(big.Int).Sub(rest, piece)
			sixteen := lower(piece)
			b = append(b, sixteen[:]...)
		}
		want := lower(new(big.Int).Mod(new(big.Int).Add(prime(), big.NewInt(k)), prime()))
		if got := poly.Sum([32]byte{1}, b); got != want {
			t.Errorf("the prime and %d: %x, want %x", k, got, want)
		}
	}
}

// textOf is a few full pieces whose number is n modulo the prime, when all are taken in with that key.
func textOf(t *testing.T, key [32]byte, n *big.Int) []byte {
	t.Helper()
	r := factor(key)
	turned := new(big.Int).Mul(n, new(big.Int).ModInverse(r, prime()))
	for i := range uint64(1000) {
		b := make([]byte, 16*(1+i%4))
		for j := range b {
			b[j] = byte((i + 1) * 0x9e3779b97f4a7c15 >> (8 * (j % 7)))
		}
		taken := new(big.Int)
		for at := 0; at < len(b); at += 16 {
			piece := append(bytes.Clone(b[at:at+16]), 1)
			taken.Mul(taken.Add(taken, numberOf(piece)), r)
		}
		last := taken.Mod(taken.Sub(turned, taken), prime())
		// The byte 1 stands behind a full piece, so that not every number is one's.
		if last.BitLen() == 129 {
			sixteen := lower(last)
			return append(b, sixteen[:]...)
		}
	}
	t.Fatalf("no text for %x", n)
	return nil
}

// P3.1, P3.3: numbers that chance does not meet, about each limb's edges and about the prime.
func TestAboutEachLimb(t *testing.T) {
	for _, key := range [][32]byte{{1}, {2}, {15: 15}, keyOf(row(16), nil), keyOf(full(16), nil), keyOf(row(40)[24:], nil)} {
		for _, digits := range []uint{0, 26, 52, 78, 104, 128, 130} {
			for i := range int64(8 * 19) {
				times, more := i/19+1, i%19-9
				n := new(big.Int).Mul(power(digits), big.NewInt(times))
				n.Mod(n.Add(n, big.NewInt(more)), prime())
				b := textOf(t, key, n)
				if got := poly.Sum(key, b); got != lower(n) || got != wanted(key, b) {
					t.Errorf("r %x, %d times 2^%d and %d: %x, want %x", key[:16], times, digits, more, got, lower(n))
				}
			}
		}
	}
}

// P3.4: with another s it is as much more, modulo 2^128.
func TestAnotherSecond(t *testing.T) {
	ss := [][]byte{make([]byte, 16), {1}, {7: 128}, {8: 1}, {15: 128}, row(16), full(16), append(full(8), make([]byte, 8)...)}
	for n := range 40 {
		for _, r := range [][]byte{{1}, row(16), full(16)} {
			first := poly.Sum(keyOf(r, nil), row(n))
			parts := poly.Both(keyOf(r, nil), [][]byte{row(n)})
			for _, s := range ss {
				if got := poly.Sum(keyOf(r, s), row(n)); got != lower(new(big.Int).Add(numberOf(first[:]), numberOf(s))) {
					t.Errorf("Sum of %d with s %x: %x", n, s, got)
				}
				if got := poly.Both(keyOf(r, s), [][]byte{row(n)}); got != lower(new(big.Int).Add(numberOf(parts[:]), numberOf(s))) {
					t.Errorf("Both of %d with s %x: %x", n, s, got)
				}
			}
		}
	}
}

// P3.1: limbs that are as great as they may be, many times over.
func TestGreatLimbs(t *testing.T) {
	state := uint64(1)
	next := func() byte {
		state = state*6364136223846793005 + 1442695040888963407
		// Two of three bytes are 0 or 255, where carries run far.
		switch state >> 60 % 3 {
		case 0:
			return 0
		case 1:
			return 255
		}
		return byte(state >> 33)
	}
	for i := range 3000 {
		var key [32]byte
		for j := range key {
			key[j] = next()
		}
		b := make([]byte, i%150)
		for j := range b {
			b[j] = next()
		}
		if got := poly.Sum(key, b); got != wanted(key, b) {
			t.Fatalf("key %x, text %x: %x, want %x", key, b, got, wanted(key, b))
		}
	}
}

// Rules 4 and 5: what is handed in, and what lies behind it, stays and is not read.
func TestWhatIsHandedInStays(t *testing.T) {
	whole := row(100)
	key := keyOf(row(16), row(16))
	if poly.Sum(key, whole[:30]) != wanted(key, row(30)) {
		t.Error("Sum reads behind the text")
	}
	parts := [][]byte{whole[:5], whole[40:61], whole[90:]}
	list := parts[:2]
	if poly.Both(key, list) != wanted(key, filled([][]byte{row(5), row(100)[40:61]})) {
		t.Error("Both reads behind a part, or behind the parts")
	}
	if !bytes.Equal(whole, row(100)) || len(parts[2]) != 10 {
		t.Error("what was handed in is changed")
	}
}
