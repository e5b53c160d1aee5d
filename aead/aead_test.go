package aead_test

import (
	"bytes"
	"math"
	"strings"
	"testing"

	"adit/aead"
	"adit/api"
	"adit/chacha"
	"adit/poly"
	"adit/words"
)

// speech is the text of the published boxes.
const speech = "Ladies and Gentlemen of the class of '99: If I could offer you only one tip for the future, sunscreen would be it."

// row is n bytes.
func row(n int) []byte {
	out := make([]byte, n)
	for i := range out {
		out[i] = byte(i*7 + i/256 + 1)
	}
	return out
}

// someKey is an ordinary key.
func someKey() api.Key { return api.Key(row(32)) }

// someNonce is an ordinary nonce.
func someNonce() [12]byte { return [12]byte(row(20)[8:]) }

// someLong is an ordinary long nonce.
func someLong() [24]byte { return [24]byte(row(30)[6:]) }

// bytesOf is the bytes of digits with blanks between.
func bytesOf(t *testing.T, s string) []byte {
	t.Helper()
	b, f := words.Unhex(strings.ReplaceAll(s, " ", ""))
	if f != (api.Fault{}) {
		t.Fatalf("no digits: %q %v", s, f)
	}
	return b
}

// wantedBox is the box as the chapter tells it.
func wantedBox(key api.Key, nonce [12]byte, plain, open []byte) []byte {
	text, _ := chacha.Xor(key, nonce, 1, plain)
	var whole []byte
	for _, part := range [][]byte{open, text} {
		whole = append(whole, part...)
		for len(whole)%16 != 0 {
			whole = append(whole, 0)
		}
	}
	for _, n := range []int{len(open), len(text)} {
		for i := range 8 {
			whole = append(whole, byte(n>>(8*i)))
		}
	}
	block := chacha.Block(key, nonce, 0)
	mark := poly.Sum([32]byte(block[:32]), whole)
	return append(text, mark[:]...)
}

// short is the key and the nonce of a long nonce, as the chapter tells them.
func short(key api.Key, nonce [24]byte) (api.Key, [12]byte) {
	return chacha.Derive(key, [16]byte(nonce[:16])), [12]byte(append(make([]byte, 4), nonce[16:]...))
}

// lengths are numbers of bytes about the edges of blocks and pieces.
func lengths() []int {
	return []int{0, 1, 2, 15, 16, 17, 31, 32, 33, 63, 64, 65, 127, 128, 129, 255, 256, 257, 1499, 1500}
}

// way is sealing and opening with a nonce of one kind.
type way struct {
	name       string
	seal, open func(text, open []byte) ([]byte, api.Errno)
}

// ways are both kinds.
func ways() []way {
	return []way{
		{"a nonce",
			func(plain, open []byte) ([]byte, api.Errno) {
				return aead.Seal(someKey(), someNonce(), plain, open)
			},
			func(box, open []byte) ([]byte, api.Errno) { return aead.Open(someKey(), someNonce(), box, open) }},
		{"a long nonce",
			func(plain, open []byte) ([]byte, api.Errno) {
				return aead.XSeal(someKey(), someLong(), plain, open)
			},
			func(box, open []byte) ([]byte, api.Errno) { return aead.XOpen(someKey(), someLong(), box, open) }},
	}
}

// published is the key of the published boxes.
func published() api.Key {
	var k api.Key
	for i := range k {
		k[i] = byte(0x80 + i)
	}
	return k
}

// checkPublished holds a way against a box of the published text.
func checkPublished(t *testing.T, w way, box string) {
	t.Helper()
	open, want := bytesOf(t, "50515253c0c1c2c3c4c5c6c7"), bytesOf(t, box)
	if got, e := w.seal([]byte(speech), open); e != api.OK || !bytes.Equal(got, want) {
		t.Errorf("%s: sealed: %x %v", w.name, got, e)
	}
	if plain, e := w.open(want, open); e != api.OK || string(plain) != speech {
		t.Errorf("%s: opened: %q %v", w.name, plain, e)
	}
}

// P4.1, P4.2: a box that is published (RFC 8439, 2.8.2).
func TestThePublishedBox(t *testing.T) {
	nonce := [12]byte(bytesOf(t, "070000004041424344454647"))
	checkPublished(t, way{"a nonce",
		func(plain, open []byte) ([]byte, api.Errno) { return aead.Seal(published(), nonce, plain, open) },
		func(box, open []byte) ([]byte, api.Errno) { return aead.Open(published(), nonce, box, open) },
	}, "d31a8d34648e60db7b86afbc53ef7ec2 a4aded51296e08fea9e2b5a736ee62d6 3dbea45e8ca9671282fafb69da92728b 1a71de0a9e060b2905d6a5b67ecd3b36"+
		"92ddbd7f2d778b8c9803aee328091b58 fab324e4fad675945585808b4831d7bc 3ff4def08e4b7a9de576d26586cec64b 6116"+
		"1ae10b594f09e26a7e902ecbd0600691")
}

// P4.1, P4.2: a box with a long nonce that is published (draft-irtf-cfrg-xchacha, A.3.1).
func TestThePublishedBoxOfALongNonce(t *testing.T) {
	nonce := [24]byte(bytesOf(t, "404142434445464748494a4b4c4d4e4f5051525354555657"))
	checkPublished(t, way{"a long nonce",
		func(plain, open []byte) ([]byte, api.Errno) { return aead.XSeal(published(), nonce, plain, open) },
		func(box, open []byte) ([]byte, api.Errno) { return aead.XOpen(published(), nonce, box, open) },
	}, "bd6d179d3e83d43b9576579493c0e939 572a1700252bfaccbed2902c21396cbb 731c7f1b0b4aa6440bf3a82f4eda7e39 ae64c6708c54c216cb96b72e1213b452"+
		"2f8c9ba40db5d945b11b69b982c1bb9e 3f3fac2bc369488f76b2383565d3fff9 21f9664c97637da9768812f615c68b13 b52e"+
		"c0875924c1c7987947deafd8780acf49")
}

// P4.1: the box, at lengths of both texts about the edges.
func TestSealAtEachLength(t *testing.T) {
	for _, n := range lengths() {
		for _, m := range lengths() {
			got, e := aead.Seal(someKey(), someNonce(), row(n), row(m))
			if e != api.OK || len(got) != n+16 || !bytes.Equal(got, wantedBox(someKey(), someNonce(), row(n), row(m))) {
				t.Errorf("Seal of %d and %d: %d %v", n, m, len(got), e)
			}
			long, e := aead.XSeal(someKey(), someLong(), row(n), row(m))
			inner, nonce := short(someKey(), someLong())
			if e != api.OK || !bytes.Equal(long, wantedBox(inner, nonce, row(n), row(m))) {
				t.Errorf("XSeal of %d and %d: %d %v", n, m, len(long), e)
			}
		}
	}
	if got, e := aead.Seal(api.Key{}, [12]byte{}, nil, nil); e != api.OK || !bytes.Equal(got, wantedBox(api.Key{}, [12]byte{}, nil, nil)) {
		t.Errorf("Seal of nothing: %x %v", got, e)
	}
}

// P4.1: at the limit of each text, and one beyond it.
func TestSealOfTooMuch(t *testing.T) {
	const most = api.MaxText
	for _, way := range ways() {
		for _, c := range []struct {
			plain, open int
			want        api.Errno
		}{
			{most, 0, api.OK}, {0, most, api.OK}, {most, most, api.OK},
			{most + 1, 0, api.ErrLong}, {0, most + 1, api.ErrLong}, {most + 1, most, api.ErrLong}, {most, most + 1, api.ErrLong},
			{most + 1, most + 1, api.ErrLong}, {2*most + 7, 3, api.ErrLong}, {3, 2*most + 7, api.ErrLong},
		} {
			box, e := way.seal(row(c.plain), row(c.open))
			if e != c.want || e == api.OK && len(box) != c.plain+16 || e != api.OK && len(box) != 0 {
				t.Errorf("%s: sealing %d and %d: %d %v, want %v", way.name, c.plain, c.open, len(box), e, c.want)
			}
			if e != api.OK {
				continue
			}
			plain, e := way.open(box, row(c.open))
			if e != api.OK || !bytes.Equal(plain, row(c.plain)) {
				t.Errorf("%s: opening %d and %d: %d %v", way.name, c.plain, c.open, len(plain), e)
			}
		}
	}
	if box, _ := aead.Seal(someKey(), someNonce(), row(most), row(most)); !bytes.Equal(box, wantedBox(someKey(), someNonce(), row(most), row(most))) {
		t.Error("the longest box is another one")
	}
}

// P4.2: the errors, in the order in which they are named.
func TestOpenOfWrongBoxes(t *testing.T) {
	const most = api.MaxText
	for _, way := range ways() {
		for _, c := range []struct {
			box, open int
			want      api.Errno
		}{
			{0, 0, api.ErrShort}, {1, 0, api.ErrShort}, {15, 0, api.ErrShort}, {15, most + 1, api.ErrShort}, {0, most + 1, api.ErrShort},
			{16, most + 1, api.ErrLong}, {16 + most + 1, 0, api.ErrLong}, {16 + most + 1, most + 1, api.ErrLong}, {16 + most, most + 1, api.ErrLong}, {3 * most, 5, api.ErrLong},
			{16, 0, api.ErrTag}, {17, 0, api.ErrTag}, {16 + most, most, api.ErrTag}, {16, most, api.ErrTag}, {16 + most, 0, api.ErrTag},
		} {
			if plain, e := way.open(row(c.box), row(c.open)); e != c.want || len(plain) != 0 {
				t.Errorf("%s: opening %d and %d: %d %v, want %v", way.name, c.box, c.open, len(plain), e, c.want)
			}
		}
		if plain, e := way.open(nil, nil); e != api.ErrShort || len(plain) != 0 {
			t.Errorf("%s: opening nothing: %v %v", way.name, plain, e)
		}
	}
}

// P4.2, P4.4: a box opens with its own key, nonce and open text alone.
func TestOpenHangsOnAll(t *testing.T) {
	box, _ := aead.Seal(someKey(), someNonce(), row(40), row(20))
	long, _ := aead.XSeal(someKey(), someLong(), row(40), row(20))
	check := func(name string, i int, plain []byte, e api.Errno) {
		if e != api.ErrTag || len(plain) != 0 {
			t.Errorf("digit %d of the %s: %d %v", i, name, len(plain), e)
		}
	}
	for i := range 8 * 32 {
		key := someKey()
		key[i/8] ^= 1 << (i % 8)
		plain, e := aead.Open(key, someNonce(), box, row(20))
		check("key", i, plain, e)
		plain, e = aead.XOpen(key, someLong(), long, row(20))
		check("key of a long nonce", i, plain, e)
	}
	for i := range 8 * 12 {
		nonce := someNonce()
		nonce[i/8] ^= 1 << (i % 8)
		plain, e := aead.Open(someKey(), nonce, box, row(20))
		check("nonce", i, plain, e)
	}
	for i := range 8 * 24 {
		nonce := someLong()
		nonce[i/8] ^= 1 << (i % 8)
		plain, e := aead.XOpen(someKey(), nonce, long, row(20))
		check("long nonce", i, plain, e)
	}
	for i := range 8 * 20 {
		open := row(20)
		open[i/8] ^= 1 << (i % 8)
		plain, e := aead.Open(someKey(), someNonce(), box, open)
		check("open text", i, plain, e)
		plain, e = aead.XOpen(someKey(), someLong(), long, open)
		check("open text with a long nonce", i, plain, e)
	}
}

// P4.2: what goes from one text into the other, or is cut off or put to it, does not open.
func TestOpenOfMovedBytes(t *testing.T) {
	for _, way := range ways() {
		box, _ := way.seal(row(32), row(16))
		for _, c := range []struct {
			name      string
			box, open []byte
		}{
			{"an open text with a byte 0 more", box, append(row(16), 0)},
			{"an open text with a byte less", box, row(15)},
			{"no open text", box, nil},
			{"a byte less", box[:47], row(16)},
			{"a byte less in front", box[1:], row(16)},
			{"a byte 0 more", append(bytes.Clone(box), 0), row(16)},
			{"the mark alone", box[32:], row(16)},
			{"the first piece moved to the open text", box[16:], append(row(16), box[:16]...)},
			{"the open text moved to the box", append(row(16), box...), nil},
			{"a piece 0 put between", append(append(bytes.Clone(box[:32]), make([]byte, 16)...), box[32:]...), row(16)},
		} {
			if plain, e := way.open(c.box, c.open); e != api.ErrTag || len(plain) != 0 {
				t.Errorf("%s: %s: %d %v", way.name, c.name, len(plain), e)
			}
		}
	}
	empty, _ := aead.Seal(someKey(), someNonce(), nil, nil)
	if plain, e := aead.Open(someKey(), someNonce(), empty, []byte{0}); e != api.ErrTag || len(plain) != 0 {
		t.Errorf("an open text of a byte 0 in place of none: %v", e)
	}
}

// P4.1, P4.2: a long nonce's box is that of the derived key, and opens so.
func TestLongNonceIsADerivedKey(t *testing.T) {
	inner, nonce := short(someKey(), someLong())
	for _, n := range lengths() {
		long, e := aead.XSeal(someKey(), someLong(), row(n), row(9))
		plain, f := aead.Open(inner, nonce, long, row(9))
		if e != api.OK || f != api.OK || !bytes.Equal(plain, row(n)) {
			t.Errorf("%d bytes with the derived key: %v %v", n, e, f)
		}
		box, e := aead.Seal(inner, nonce, row(n), row(9))
		plain, f = aead.XOpen(someKey(), someLong(), box, row(9))
		if e != api.OK || f != api.OK || !bytes.Equal(plain, row(n)) {
			t.Errorf("%d bytes with the long nonce: %v %v", n, e, f)
		}
	}
}

// P4.3: Counter.
func TestCounter(t *testing.T) {
	for _, c := range []struct {
		n    uint64
		want [12]byte
	}{
		{0, [12]byte{}}, {1, [12]byte{4: 1}}, {256, [12]byte{5: 1}}, {1 << 32, [12]byte{8: 1}}, {1 << 63, [12]byte{11: 128}},
		{0x0807060504030201, [12]byte{4: 1, 5: 2, 6: 3, 7: 4, 8: 5, 9: 6, 10: 7, 11: 8}},
		{math.MaxUint64, [12]byte{4: 255, 5: 255, 6: 255, 7: 255, 8: 255, 9: 255, 10: 255, 11: 255}},
		{api.RejectMessages, [12]byte{4: 255, 5: 223, 6: 255, 7: 255, 8: 255, 9: 255, 10: 255, 11: 255}},
	} {
		if got := aead.Counter(c.n); got != c.want {
			t.Errorf("Counter(%d): %v, want %v", c.n, got, c.want)
		}
	}
}

// P4.4: boxes go there and back, at each length and with noughts too.
func TestBoxesThereAndBack(t *testing.T) {
	for _, way := range ways() {
		for n := range 150 {
			for _, m := range []int{0, 1, 16, 31} {
				for _, plain := range [][]byte{row(n), make([]byte, n)} {
					box, e := way.seal(plain, row(m))
					back, f := way.open(box, row(m))
					if e != api.OK || f != api.OK || len(box) != n+16 || !bytes.Equal(back, plain) {
						t.Errorf("%s: %d and %d there and back: %v %v", way.name, n, m, e, f)
					}
				}
			}
		}
	}
}

// P4.4: what opens is the box of what comes: it comes sealed again, and no other box of its length opens to it.
func TestWhatOpensIsTheBox(t *testing.T) {
	for _, way := range ways() {
		box, _ := way.seal(row(30), row(5))
		for i := range 8*len(box) + 1 {
			other := bytes.Clone(box)
			if i < 8*len(box) {
				other[i/8] ^= 1 << (i % 8)
			}
			plain, e := way.open(other, row(5))
			if (e == api.OK) != (i == 8*len(box)) || e != api.OK && (e != api.ErrTag || len(plain) != 0) {
				t.Errorf("%s: digit %d turned: %d %v", way.name, i, len(plain), e)
			}
			if again, f := way.seal(plain, row(5)); e == api.OK && (f != api.OK || !bytes.Equal(again, other)) {
				t.Errorf("%s: sealed again it is another box: %v", way.name, f)
			}
		}
	}
}

// P4.5: a box whose mark is turned does not open, in one digit, in one byte, or as a whole.
func TestTurnedMarks(t *testing.T) {
	for _, way := range ways() {
		for _, n := range []int{0, 1, 16, 100} {
			box, _ := way.seal(row(n), row(3))
			for i := range 16 {
				for v := 1; v < 256; v++ {
					other := bytes.Clone(box)
					other[n+i] ^= byte(v)
					if plain, e := way.open(other, row(3)); e != api.ErrTag || len(plain) != 0 {
						t.Errorf("%s: byte %d of the mark of %d turned by %d: %d %v", way.name, i, n, v, len(plain), e)
					}
				}
			}
			none := append(bytes.Clone(box[:n]), make([]byte, 16)...)
			if plain, e := way.open(none, row(3)); e != api.ErrTag || len(plain) != 0 {
				t.Errorf("%s: a mark of noughts: %d %v", way.name, len(plain), e)
			}
			for i := range 15 {
				swapped := bytes.Clone(box)
				swapped[n+i], swapped[n+i+1] = box[n+i+1], box[n+i]
				if plain, e := way.open(swapped, row(3)); box[n+i] != box[n+i+1] && (e != api.ErrTag || len(plain) != 0) {
					t.Errorf("%s: bytes of the mark swapped: %d %v", way.name, len(plain), e)
				}
			}
		}
	}
}

// P4.6: unlike numbers have unlike nonces.
func TestUnlikeCounters(t *testing.T) {
	numbers := []uint64{}
	for i := range 64 {
		numbers = append(numbers, 1<<i, 1<<i-1, ^uint64(1<<i))
	}
	for i := range uint64(3000) {
		numbers = append(numbers, i, math.MaxUint64-i, i<<32)
	}
	seen := map[[12]byte]uint64{}
	for _, n := range numbers {
		c := aead.Counter(n)
		if other, ok := seen[c]; ok && other != n {
			t.Errorf("%d and %d have one nonce", n, other)
		}
		seen[c] = n
		if back, e := words.Load64(c[:], 4); back != n || e != api.OK {
			t.Errorf("Counter(%d) holds %d", n, back)
		}
	}
}

// Rules 4 and 5: what is handed in, and what lies behind it, stays; answers are new memory, with no room behind a box.
func TestWhatIsHandedInStays(t *testing.T) {
	for _, way := range ways() {
		whole, more := row(200), row(90)
		box, e := way.seal(whole[:50], more[:20])
		want, _ := way.seal(row(50), row(20))
		if e != api.OK || !bytes.Equal(box, want) {
			t.Errorf("%s: sealing reads behind the texts: %v", way.name, e)
		}
		if cap(box) != len(box) {
			t.Errorf("%s: there is room for %d behind the box", way.name, cap(box)-len(box))
		}
		if !bytes.Equal(whole, row(200)) || !bytes.Equal(more, row(90)) {
			t.Errorf("%s: sealing changed what it was handed", way.name)
		}
		held := append(bytes.Clone(box), row(30)...)
		plain, e := way.open(held[:66], more[:20])
		if e != api.OK || !bytes.Equal(plain, row(50)) {
			t.Errorf("%s: opening reads behind the box: %v", way.name, e)
		}
		if !bytes.Equal(held, append(bytes.Clone(box), row(30)...)) || !bytes.Equal(more, row(90)) {
			t.Errorf("%s: opening changed what it was handed", way.name)
		}
		plain[0] ^= 1
		_ = append(plain, 1, 2, 3)
		if again, e := way.open(held[:66], more[:20]); e != api.OK || !bytes.Equal(again, row(50)) {
			t.Errorf("%s: the answer shares memory: %v", way.name, e)
		}
		box[0] ^= 1
		if again, _ := way.seal(whole[:50], more[:20]); !bytes.Equal(again, want) || !bytes.Equal(whole, row(200)) {
			t.Errorf("%s: the box is kept, or shares memory", way.name)
		}
	}
}
