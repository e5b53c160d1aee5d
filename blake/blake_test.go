package blake_test

import (
	"bytes"
	"math"
	"math/big"
	"strconv"
	"strings"
	"testing"

	"adit/api"
	"adit/blake"
	"adit/words"
)

// row is n bytes.
func row(n int) []byte {
	out := make([]byte, n)
	for i := range out {
		out[i] = byte(i*7 + i/256 + 1)
	}
	return out
}

// count is the bytes 0, 1, 2 and so on.
func count(n int) []byte {
	out := make([]byte, n)
	for i := range out {
		out[i] = byte(i)
	}
	return out
}

// eight are the numbers that a sum begins with: of the roots of the first eight primes the 32 digits behind the point.
func eight() [8]uint32 {
	var out [8]uint32
	for i, p := range []int64{2, 3, 5, 7, 11, 13, 17, 19} {
		n := new(big.Int).Lsh(big.NewInt(p), 64)
		out[i] = uint32(n.Sqrt(n).Uint64())
	}
	return out
}

// orders are the chapter's.
func orders() [10][16]int {
	const told = "0 1 2 3 4 5 6 7 8 9 10 11 12 13 14 15; 14 10 4 8 9 15 13 6 1 12 0 2 11 7 5 3; 11 8 12 0 5 2 15 13 10 14 3 6 7 1 9 4; 7 9 3 1 13 12 11 14 2 6 5 10 4 0 15 8; 9 0 5 7 2 4 10 15 14 1 11 12 6 8 3 13; 2 12 6 10 0 11 8 3 4 13 7 5 15 14 1 9; 12 5 1 15 14 13 4 10 0 7 6 3 9 2 8 11; 13 11 7 14 12 1 3 9 5 0 15 4 8 6 2 10; 6 15 14 9 11 3 0 8 12 2 13 7 1 4 10 5; 10 2 8 4 7 6 1 5 15 11 9 14 3 12 13 0"
	var out [10][16]int
	for i, line := range strings.Split(told, "; ") {
		for j, word := range strings.Fields(line) {
			out[i][j], _ = strconv.Atoi(word)
		}
	}
	return out
}

// down turns a number down by n digits.
func down(v uint32, n int) uint32 { return v>>n | v<<(32-n) }

// takeBlock takes a block in, as the chapter's words have it.
func takeBlock(h [8]uint32, block []byte, t uint64, last bool) [8]uint32 {
	var v, m [16]uint32
	start := eight()
	copy(v[:8], h[:])
	copy(v[8:], start[:])
	v[12] ^= uint32(t % (1 << 32))
	v[13] ^= uint32(t / (1 << 32))
	if last {
		v[14] ^= math.MaxUint32
	}
	for i := range m {
		for j := range 4 {
			m[i] += uint32(block[4*i+j]) << (8 * j)
		}
	}
	places := [8][4]int{
		{0, 4, 8, 12}, {1, 5, 9, 13}, {2, 6, 10, 14}, {3, 7, 11, 15},
		{0, 5, 10, 15}, {1, 6, 11, 12}, {2, 7, 8, 13}, {3, 4, 9, 14},
	}
	for _, order := range orders() {
		for i, p := range places {
			a, b, c, d := v[p[0]], v[p[1]], v[p[2]], v[p[3]]
			a += b + m[order[2*i]]
			d = down(d^a, 16)
			c += d
			b = down(b^c, 12)
			a += b + m[order[2*i+1]]
			d = down(d^a, 8)
			c += d
			b = down(b^c, 7)
			v[p[0]], v[p[1]], v[p[2]], v[p[3]] = a, b, c, d
		}
	}
	for i := range h {
		h[i] = h[i] ^ v[i] ^ v[i+8]
	}
	return h
}

// wanted is the sum, as the chapter's words have it.
func wanted(size int, key, b []byte) []byte {
	h := eight()
	h[0] = h[0] ^ 16842752 ^ uint32(256*len(key)) ^ uint32(size)
	var whole []byte
	if len(key) > 0 {
		whole = append(bytes.Clone(key), make([]byte, 64-len(key))...)
	}
	whole = append(whole, b...)
	for at := 0; at == 0 || at < len(whole); at += 64 {
		end := min(at+64, len(whole))
		block := append(bytes.Clone(whole[at:end]), make([]byte, 64-(end-at))...)
		h = takeBlock(h, block, uint64(end), end == len(whole))
	}
	var out []byte
	for _, v := range h {
		out = append(out, byte(v), byte(v>>8), byte(v>>16), byte(v>>24))
	}
	return out[:size]
}

// check holds a sum against the one that is wanted.
func check(t *testing.T, what string, got []byte, e api.Errno, want []byte) {
	t.Helper()
	if e != api.OK || !bytes.Equal(got, want) {
		t.Fatalf("%s: %x %v, want %x", what, got, e, want)
	}
}

// hashOf is a hash of a size and a key.
func hashOf(t *testing.T, size int, key []byte) *blake.Hash {
	t.Helper()
	h, e := blake.New(size, key)
	if h == nil || e != api.OK {
		t.Fatalf("New of %d and %d bytes: %v %v", size, len(key), h, e)
	}
	return h
}

// write puts bytes behind a hash's text.
func write(t *testing.T, h *blake.Hash, b []byte) {
	t.Helper()
	if e := h.Write(b); e != api.OK {
		t.Fatalf("Write of %d bytes: %v", len(b), e)
	}
}

// edges are lengths of texts about the edges of blocks, and long ones.
func edges() []int {
	return []int{0, 1, 2, 3, 4, 5, 31, 32, 33, 63, 64, 65, 127, 128, 129, 191, 192, 193, 255, 256, 257, 1500, api.MaxText - 1, api.MaxText, api.MaxText + 1}
}

// P7.1: what is published (RFC 7693, appendix B, and the sums with a key of the reference).
func TestPublishedSums(t *testing.T) {
	for _, c := range []struct {
		key, text []byte
		want      string
	}{
		{nil, nil, "69217a3079908094e11121d042354a7c1f55b6482ca1a51e1b250dfd1ed0eef9"},
		{nil, []byte("abc"), "508c5e8c327c14e2e1a72ba34eeb452f37458b209ed63a294d999b4c86675982"},
		{nil, count(1), "e34d74dbaf4ff4c6abd871cc220451d2ea2648846c7757fbaac82fe51ad64bea"},
		{nil, count(64), "56f34e8b96557e90c1f24b52d0c89d51086acf1b00f634cf1dde9233b8eaaa3e"},
		{nil, count(65), "1b53ee94aaf34e4b159d48de352c7f0661d0a40edff95a0b1639b4090e974472"},
		{nil, count(255), "f03f5789d3336b80d002d59fdf918bdb775b00956ed5528e86aa994acb38fe2d"},
		{count(32), nil, "48a8997da407876b3d79c0d92325ad3b89cbb754d86ab71aee047ad345fd2c49"},
		{count(32), count(1), "40d15fee7c328830166ac3f918650f807e7e01e177258cdc0a39b11f598066f1"},
		{count(32), count(63), "c65382513f07460da39833cb666c5ed82e61b9e998f4b0c4287cee56c3cc9bcd"},
		{count(32), count(64), "8975b0577fd35566d750b362b0897a26c399136df07bababbde6203ff2954ed4"},
		{count(32), count(65), "21fe0ceb0052be7fb0f004187cacd7de67fa6eb0938d927677f2398c132317a8"},
		{count(32), count(128), "0c311f38c35a4fb90d651c289d486856cd1413df9b0677f53ece2cd9e477c60a"},
		{count(32), count(254), "db444c15597b5f1a03d1f9edd16e4a9f43a667cc275175dfa2b704e3bb1a9b83"},
	} {
		got, e := blake.Sum(32, c.key, c.text)
		if e != api.OK || words.Hex(got) != c.want {
			t.Errorf("%d bytes with a key of %d: %x %v", len(c.text), len(c.key), got, e)
		}
		if c.key == nil {
			if got := blake.Sum32(c.text); words.Hex(got[:]) != c.want {
				t.Errorf("Sum32 of %d bytes: %x", len(c.text), got)
			}
		}
	}
}

// grown is n bytes of a seed (RFC 7693, appendix E).
func grown(n int, seed uint32) []byte {
	a, b := 0xdead4bad*seed, uint32(1)
	out := make([]byte, n)
	for i := range out {
		a, b = b, a+b
		out[i] = byte(b >> 24)
	}
	return out
}

// P7.1: the sum of many sums, of four sizes, without keys and with them, as published (RFC 7693, appendix E).
func TestPublishedSumOfSums(t *testing.T) {
	h := hashOf(t, 32, nil)
	for _, size := range []int{16, 20, 28, 32} {
		for _, n := range []int{0, 3, 64, 65, 255, 1024} {
			text := grown(n, uint32(n))
			for _, key := range [][]byte{nil, grown(size, uint32(size))} {
				got, e := blake.Sum(size, key, text)
				if e != api.OK {
					t.Fatalf("%d bytes of a key of %d: %v", n, len(key), e)
				}
				write(t, h, got)
			}
		}
	}
	if got, e := h.Sum(); e != api.OK || words.Hex(got) != "6a411f08ce25adcdfb02aba641451cec53c598b24f4fc787fbdc88797f4c1dfe" {
		t.Errorf("the sum of sums: %x %v", got, e)
	}
}

// P7.1: texts of each length about the first blocks, and long ones.
func TestSumAtEachLength(t *testing.T) {
	lengths := edges()
	for n := range 200 {
		lengths = append(lengths, n)
	}
	for _, n := range lengths {
		for _, key := range [][]byte{nil, row(1), row(31), row(32)} {
			for _, size := range []int{1, 16, 32} {
				got, e := blake.Sum(size, key, row(n))
				check(t, "a text of "+strconv.Itoa(n), got, e, wanted(size, key, row(n)))
			}
		}
		if got := blake.Sum32(row(n)); !bytes.Equal(got[:], wanted(32, nil, row(n))) {
			t.Errorf("Sum32 of %d bytes: %x", n, got)
		}
	}
}

// P7.1: each size and each length of a key.
func TestSumOfEachSizeAndKey(t *testing.T) {
	for size := 1; size <= 32; size++ {
		for n := 0; n <= 32; n++ {
			for _, text := range [][]byte{nil, row(10), row(64), row(100)} {
				got, e := blake.Sum(size, row(n), text)
				check(t, "size "+strconv.Itoa(size)+" and a key of "+strconv.Itoa(n), got, e, wanted(size, row(n), text))
			}
		}
	}
}

// P7.1: great numbers, whose sums leave their 32 digits.
func TestSumOfGreatNumbers(t *testing.T) {
	for _, n := range []int{1, 64, 100, 128, 200} {
		for _, k := range []int{0, 1, 32} {
			full := bytes.Repeat([]byte{255}, n)
			key := bytes.Repeat([]byte{255}, k)
			got, e := blake.Sum(32, key, full)
			check(t, "full bytes", got, e, wanted(32, key, full))
			got, e = blake.Sum(32, key, make([]byte, n))
			check(t, "noughts", got, e, wanted(32, key, make([]byte, n)))
		}
	}
}

// P7.1, P7.2: sizes and keys that are none, of Sum and of New.
func TestWrongSizesAndKeys(t *testing.T) {
	for _, c := range []struct{ size, key int }{
		{0, 0}, {-1, 0}, {33, 0}, {64, 0}, {math.MinInt, 0}, {math.MaxInt, 0}, {1 << 32, 0}, {1<<32 + 1, 0}, {257, 0},
		{0, 32}, {33, 32}, {32, 33}, {1, 33}, {32, 64}, {32, 65}, {32, 256}, {32, 257}, {32, api.MaxText}, {0, 33}, {33, 33},
	} {
		for _, text := range [][]byte{nil, row(3), row(64), row(65)} {
			if got, e := blake.Sum(c.size, row(c.key), text); len(got) != 0 || e != api.ErrArg {
				t.Errorf("Sum of size %d with a key of %d: %x %v", c.size, c.key, got, e)
			}
		}
		if h, e := blake.New(c.size, row(c.key)); h != nil || e != api.ErrArg {
			t.Errorf("New of size %d with a key of %d: %v %v", c.size, c.key, h, e)
		}
	}
}

// P7.1: each digit of the text and of the key, and where the text ends, count.
func TestSumHangsOnAll(t *testing.T) {
	const n, k = 130, 32
	seen := map[string]string{}
	put := func(what string, size int, key, text []byte) {
		got, e := blake.Sum(size, key, text)
		if e != api.OK {
			t.Fatalf("%s: %v", what, e)
		}
		if other, ok := seen[string(got)]; ok {
			t.Errorf("%s is as %s", what, other)
		}
		seen[string(got)] = what
	}
	put("the text", 32, row(k), row(n))
	for i := range 8 * n {
		text := row(n)
		text[i/8] ^= 1 << (i % 8)
		put("digit "+strconv.Itoa(i)+" of the text", 32, row(k), text)
	}
	for i := range 8 * k {
		key := row(k)
		key[i/8] ^= 1 << (i % 8)
		put("digit "+strconv.Itoa(i)+" of the key", 32, key, row(n))
	}
	for i := range n {
		put("the text's first "+strconv.Itoa(i), 32, row(k), row(n)[:i])
	}
	for i := range k {
		put("the key's first "+strconv.Itoa(i), 32, row(k)[:i], row(n))
	}
	for i := 1; i <= n; i++ {
		put(strconv.Itoa(i)+" noughts", 32, row(k), make([]byte, i))
	}
	for i := 1; i <= k; i++ {
		put("a key of "+strconv.Itoa(i)+" noughts", 32, make([]byte, i), row(n))
	}
}

// P7.1: a key of no bytes is none; a key is not as a text that begins with it.
func TestKeysThatAreNone(t *testing.T) {
	for _, n := range edges() {
		none, e := blake.Sum(32, nil, row(n))
		check(t, "a key of no bytes", none, e, wanted(32, nil, row(n)))
		empty, e := blake.Sum(32, []byte{}, row(n))
		check(t, "an empty key", empty, e, none)
		keyed, _ := blake.Sum(32, row(32), row(n))
		if bytes.Equal(keyed, wanted(32, nil, append(append(row(32), make([]byte, 32)...), row(n)...))) {
			t.Errorf("%d bytes: a key is as a text ahead", n)
		}
	}
}

// P7.1: the chapter's examples.
func TestExamples(t *testing.T) {
	if got := blake.Sum32(nil); !bytes.Equal(got[:4], []byte{105, 33, 122, 48}) {
		t.Errorf("nothing: %v", got)
	}
	if got := blake.Sum32([]byte("abc")); !bytes.Equal(got[:4], []byte{80, 140, 94, 140}) {
		t.Errorf("abc: %v", got)
	}
}

// P7.2: a hash of the empty text, written on and asked.
func TestHash(t *testing.T) {
	for _, size := range []int{1, 4, 16, 31, 32} {
		for _, key := range [][]byte{nil, row(1), row(32)} {
			h := hashOf(t, size, key)
			got, e := h.Sum()
			check(t, "the empty text", got, e, wanted(size, key, nil))
			text := []byte{}
			for _, n := range []int{0, 1, 62, 1, 0, 1, 63, 64, 128, 200, 7} {
				piece := row(n + 3)[3:]
				write(t, h, piece)
				text = append(text, piece...)
				got, e := h.Sum()
				check(t, strconv.Itoa(len(text))+" bytes", got, e, wanted(size, key, text))
			}
		}
	}
}

// P7.2: nil, and a hash that no call made.
func TestNoHash(t *testing.T) {
	var none *blake.Hash
	var own blake.Hash
	for _, h := range []*blake.Hash{none, &own, new(blake.Hash), {}} {
		for range 2 {
			for _, b := range [][]byte{nil, {}, row(1), row(200)} {
				if e := h.Write(b); e != api.ErrNil {
					t.Errorf("Write of %d bytes: %v", len(b), e)
				}
			}
			if got, e := h.Sum(); len(got) != 0 || e != api.ErrNil {
				t.Errorf("Sum: %x %v", got, e)
			}
		}
	}
}

// P7.3: a text in two pieces, wherever it is cut.
func TestTwoPieces(t *testing.T) {
	for _, n := range []int{0, 1, 63, 64, 65, 127, 128, 129, 192, 200} {
		for _, key := range [][]byte{nil, row(32)} {
			want := wanted(32, key, row(n))
			for cut := 0; cut <= n; cut++ {
				h := hashOf(t, 32, key)
				write(t, h, row(n)[:cut])
				write(t, h, row(n)[cut:])
				got, e := h.Sum()
				check(t, strconv.Itoa(n)+" cut at "+strconv.Itoa(cut), got, e, want)
			}
		}
	}
}

// P7.3: a text in pieces of each length, with empty ones between; asking changes nothing.
func TestManyPieces(t *testing.T) {
	const n = 500
	for size := 1; size <= n; size++ {
		for _, key := range [][]byte{nil, row(5)} {
			quiet, asked := hashOf(t, 20, key), hashOf(t, 20, key)
			for at := 0; at < n; at += size {
				piece := row(n)[at:min(at+size, n)]
				write(t, quiet, piece)
				write(t, quiet, nil)
				write(t, asked, piece)
				first, e := asked.Sum()
				second, f := asked.Sum()
				if e != api.OK || f != api.OK || !bytes.Equal(first, second) {
					t.Fatalf("pieces of %d: asked twice at %d: %x %v, %x %v", size, at, first, e, second, f)
				}
			}
			want := wanted(20, key, row(n))
			got, e := quiet.Sum()
			check(t, "pieces of "+strconv.Itoa(size), got, e, want)
			got, e = asked.Sum()
			check(t, "pieces of "+strconv.Itoa(size)+", asked", got, e, want)
		}
	}
}

// P7.3: what is asked on the way is the sum of what stands ahead.
func TestSumsOnTheWay(t *testing.T) {
	h := hashOf(t, 32, row(7))
	for n := range 300 {
		got, e := h.Sum()
		check(t, strconv.Itoa(n)+" bytes", got, e, wanted(32, row(7), row(n)))
		write(t, h, row(n + 1)[n:])
	}
}

// P7.3: hashes do not touch each other.
func TestTwoHashes(t *testing.T) {
	one, two := hashOf(t, 32, row(9)), hashOf(t, 32, row(9))
	write(t, one, row(70))
	write(t, two, row(10))
	write(t, one, row(3))
	got, e := two.Sum()
	check(t, "the second", got, e, wanted(32, row(9), row(10)))
	got, e = one.Sum()
	check(t, "the first", got, e, wanted(32, row(9), append(row(70), row(3)...)))
}

// P7.4: a shorter sum is no beginning of a longer one; of one size as many bytes are told.
func TestSizesApart(t *testing.T) {
	for _, text := range [][]byte{nil, row(3), row(64), row(200)} {
		for _, key := range [][]byte{nil, row(32)} {
			var sums [33][]byte
			for size := 1; size <= 32; size++ {
				h := hashOf(t, size, key)
				write(t, h, text)
				told, e := h.Sum()
				sum, f := blake.Sum(size, key, text)
				if len(told) != size || len(sum) != size || e != api.OK || f != api.OK {
					t.Fatalf("size %d: %x %v, %x %v", size, told, e, sum, f)
				}
				sums[size] = sum
			}
			for long := 5; long <= 32; long++ {
				for short := 4; short < long; short++ {
					if bytes.Equal(sums[short], sums[long][:short]) {
						t.Errorf("%d bytes: the sum of size %d begins that of %d", len(text), short, long)
					}
				}
			}
		}
	}
}

// Rules 4 and 5: what is handed in is not changed and not kept, what lies behind it is not read, answers are new memory.
func TestWhatIsHandedInStays(t *testing.T) {
	whole, more := row(300), row(60)
	sum, e := blake.Sum(20, more[:20], whole[:100])
	check(t, "with bytes behind", sum, e, wanted(20, row(20), row(100)))
	if cap(sum) != len(sum) {
		t.Errorf("there is room for %d behind a sum", cap(sum)-len(sum))
	}
	h := hashOf(t, 20, more[:20])
	more[0] ^= 1
	write(t, h, whole[:100])
	whole[0], whole[99] = whole[0]^1, whole[99]^1
	told, e := h.Sum()
	check(t, "what is kept", told, e, sum)
	if cap(told) != len(told) {
		t.Errorf("there is room for %d behind what is told", cap(told)-len(told))
	}
	told[0] ^= 1
	again, e := h.Sum()
	check(t, "asked again", again, e, sum)
	more[0], whole[0], whole[99] = more[0]^1, whole[0]^1, whole[99]^1
	if !bytes.Equal(whole, row(300)) || !bytes.Equal(more, row(60)) {
		t.Error("what was handed in is changed")
	}
}
