package chacha_test

import (
	"bytes"
	"math"
	"strings"
	"testing"

	"adit/api"
	"adit/chacha"
	"adit/words"
)

// rising is the key 0, 1, 2 and so on, of which the published examples are.
func rising() api.Key {
	var k api.Key
	for i := range k {
		k[i] = byte(i)
	}
	return k
}

// row is n bytes.
func row(n int) []byte {
	out := make([]byte, n)
	for i := range out {
		out[i] = byte(i*7 + i/256 + 1)
	}
	return out
}

// bytesOf is the bytes of digits with blanks between.
func bytesOf(t *testing.T, s string) []byte {
	t.Helper()
	b, f := words.Unhex(strings.ReplaceAll(s, " ", ""))
	if f != (api.Fault{}) {
		t.Fatalf("no digits: %q %v", s, f)
	}
	return b
}

// P2.1: blocks that are published (RFC 8439, 2.3.2 and A.1).
func TestBlock(t *testing.T) {
	last := api.Key{31: 1}
	second := api.Key{1: 255}
	for _, c := range []struct {
		key     api.Key
		nonce   [12]byte
		counter uint32
		want    string
	}{
		{rising(), [12]byte{3: 9, 7: 0x4a}, 1,
			"10f1e7e4d13b5915500fdd1fa32071c4 c7d1f4c733c068030422aa9ac3d46c4e d2826446079faa0914c2d705d98b02a2 b5129cd1de164eb9cbd083e8a2503c4e"},
		{api.Key{}, [12]byte{}, 0,
			"76b8e0ada0f13d90405d6ae55386bd28 bdd219b8a08ded1aa836efcc8b770dc7 da41597c5157488d7724e03fb8d84a37 6a43b8f41518a11cc387b669b2ee6586"},
		{api.Key{}, [12]byte{}, 1,
			"9f07e7be5551387a98ba977c732d080d cb0f29a048e3656912c6533e32ee7aed 29b721769ce64e43d57133b074d839d5 31ed1f28510afb45ace10a1f4b794d6f"},
		{last, [12]byte{}, 1,
			"3aeb5224ecf849929b9d828db1ced4dd 832025e8018b8160b82284f3c949aa5a 8eca00bbb4a73bdad192b5c42f73f2fd 4e273644c8b36125a64addeb006c13a0"},
		{second, [12]byte{}, 2,
			"72d54dfbf12ec44b362692df94137f32 8fea8da73990265ec1bbbea1ae9af0ca 13b25aa26cb4a648cb9b9d1be65b2c09 24a66c54d545ec1b7374f4872e99f096"},
		{api.Key{}, [12]byte{11: 2}, 0,
			"c2c64d378cd536374ae204b9ef933fcd 1a8b2288b3dfa49672ab765b54ee27c7 8a970e0e955c14f3a88e741b97c286f7 5f8fc299e8148362fa198a39531bed6d"},
	} {
		got := chacha.Block(c.key, c.nonce, c.counter)
		if !bytes.Equal(got[:], bytesOf(t, c.want)) {
			t.Errorf("Block of counter %d: %s", c.counter, words.Hex(got[:]))
		}
	}
}

// P2.1: the counter's greatest number is a counter like others, and does not run over into the nonce.
func TestBlockOfTheLastCounter(t *testing.T) {
	last := chacha.Block(rising(), [12]byte{}, math.MaxUint32)
	if last == chacha.Block(rising(), [12]byte{1}, 0) || last == chacha.Block(rising(), [12]byte{}, 0) {
		t.Error("the last counter's block is another one's")
	}
}

// P2.1: each byte of the key and the nonce, and each byte of the counter, counts.
func TestBlockHangsOnAll(t *testing.T) {
	seen := map[[64]byte]string{}
	add := func(name string, b [64]byte) {
		if other, ok := seen[b]; ok {
			t.Errorf("%s and %s have one block", name, other)
		}
		seen[b] = name
	}
	add("noughts", chacha.Block(api.Key{}, [12]byte{}, 0))
	for i := range 32 {
		var k api.Key
		k[i] = 1
		add("key", chacha.Block(k, [12]byte{}, 0))
	}
	for i := range 12 {
		var n [12]byte
		n[i] = 1
		add("nonce", chacha.Block(api.Key{}, n, 0))
	}
	for i := range 32 {
		add("counter", chacha.Block(api.Key{}, [12]byte{}, 1<<i))
	}
}

// P2.1: a derived key that is published (HChaCha20, draft-irtf-cfrg-xchacha, 2.2.1).
func TestDerive(t *testing.T) {
	nonce := [16]byte{3: 9, 7: 0x4a, 12: 0x31, 13: 0x41, 14: 0x59, 15: 0x27}
	got := chacha.Derive(rising(), nonce)
	if want := bytesOf(t, "82413b4227b27bfed30e42508a877d73 a0f9e4d58a74a853c12ec41326d3ecdc"); !bytes.Equal(got[:], want) {
		t.Errorf("Derive: %s", words.Hex(got[:]))
	}
	for i := range 16 {
		other := nonce
		other[i] ^= 0x80
		if chacha.Derive(rising(), other) == got {
			t.Errorf("byte %d of the nonce does not count", i)
		}
	}
}

// P2.1: Derive is the block less the first state, at the front and at the back.
func TestDeriveIsTheBlocksInside(t *testing.T) {
	nonce := [12]byte{5, 6, 7, 8, 9, 10, 11, 12, 13, 14, 15, 16}
	block := chacha.Block(rising(), nonce, 0x04030201)
	whole := [16]byte{1, 2, 3, 4, 5, 6, 7, 8, 9, 10, 11, 12, 13, 14, 15, 16}
	front := [4]uint32{1634760805, 857760878, 2036477234, 1797285236}
	got := chacha.Derive(rising(), whole)
	for i := range 4 {
		first, _ := words.Load32(block[:], 4*i)
		last, _ := words.Load32(block[:], 48+4*i)
		back, _ := words.Load32(whole[:], 4*i)
		g, _ := words.Load32(got[:], 4*i)
		h, _ := words.Load32(got[:], 16+4*i)
		if g != first-front[i] || h != last-back {
			t.Errorf("number %d: %x %x", i, g, h)
		}
	}
}

// P2.2: a text that is published (RFC 8439, 2.4.2).
func TestXor(t *testing.T) {
	text := "Ladies and Gentlemen of the class of '99: If I could offer you only one tip for the future, sunscreen would be it."
	want := bytesOf(t, "6e2e359a2568f98041ba0728dd0d6981 e97e7aec1d4360c20a27afccfd9fae0b f91b65c5524733ab8f593dabcd62b357 1639d624e65152ab8f530c359f0861d8"+
		"07ca0dbf500d6a6156a38e088a22b65e 52bc514d16ccf806818ce91ab7793736 5af90bbf74a35be6b40b8eedf2785e42 874d")
	got, e := chacha.Xor(rising(), [12]byte{7: 0x4a}, 1, []byte(text))
	if e != api.OK || !bytes.Equal(got, want) {
		t.Errorf("Xor: %s %v", words.Hex(got), e)
	}
}

// P2.2: each 64 bytes with the block of the next counter, at lengths about the blocks' edges.
func TestXorByBlocks(t *testing.T) {
	key, nonce := rising(), [12]byte{1, 2, 3}
	for _, n := range []int{0, 1, 2, 63, 64, 65, 127, 128, 129, 1500, api.MaxText - 1, api.MaxText} {
		b := row(n)
		got, e := chacha.Xor(key, nonce, 7, b)
		if e != api.OK || len(got) != n {
			t.Fatalf("Xor of %d: %d %v", n, len(got), e)
		}
		for at := 0; at < n; at += 64 {
			block := chacha.Block(key, nonce, 7+uint32(at/64))
			for i := at; i < min(at+64, n); i++ {
				if got[i] != b[i]^block[i-at] {
					t.Fatalf("Xor of %d at %d: %d", n, i, got[i])
				}
			}
		}
	}
}

// P2.2: too long by itself, and by its counter.
func TestXorOfTooMuch(t *testing.T) {
	const most = math.MaxUint32
	for _, c := range []struct {
		counter uint32
		n       int
		want    api.Errno
	}{
		{0, 0, api.OK}, {0, api.MaxText, api.OK}, {0, api.MaxText + 1, api.ErrLong}, {most, api.MaxText + 1, api.ErrLong},
		{most, 0, api.OK}, {most, 1, api.OK}, {most, 64, api.OK}, {most, 65, api.ErrLong}, {most, api.MaxText, api.ErrLong},
		{most - 1, 64, api.OK}, {most - 1, 128, api.OK}, {most - 1, 129, api.ErrLong},
		{most - 1023, api.MaxText, api.OK}, {most - 1022, api.MaxText, api.ErrLong}, {most - 1022, api.MaxText - 63, api.ErrLong}, {most - 1022, api.MaxText - 64, api.OK},
	} {
		got, e := chacha.Xor(api.Key{1}, [12]byte{2}, c.counter, row(c.n))
		if e != c.want || e == api.OK && len(got) != c.n || e != api.OK && len(got) != 0 {
			t.Errorf("Xor of %d at %d: %d %v, want %v", c.n, c.counter, len(got), e, c.want)
		}
	}
	got, e := chacha.Xor(api.Key{1}, [12]byte{2}, most, make([]byte, 64))
	if block := chacha.Block(api.Key{1}, [12]byte{2}, most); e != api.OK || !bytes.Equal(got, block[:]) {
		t.Errorf("the last block: %v", e)
	}
	if got, e := chacha.Xor(api.Key{}, [12]byte{}, 0, nil); len(got) != 0 || e != api.OK {
		t.Errorf("Xor of nothing: %v %v", got, e)
	}
}

// P2.3: xor'ed twice it is as it was; in pieces it is as the whole.
func TestXorTwiceAndInPieces(t *testing.T) {
	key, nonce := rising(), [12]byte{9, 8, 7}
	for _, n := range []int{0, 1, 63, 64, 65, 200, 640, 4097} {
		b := row(n)
		whole, e := chacha.Xor(key, nonce, 5, b)
		back, f := chacha.Xor(key, nonce, 5, whole)
		if e != api.OK || f != api.OK || !bytes.Equal(back, b) {
			t.Errorf("%d bytes twice: %v %v", n, e, f)
		}
		var joined []byte
		for at := 0; at < n; at += 64 {
			piece, e := chacha.Xor(key, nonce, 5+uint32(at/64), b[at:min(at+64, n)])
			if e != api.OK {
				t.Errorf("piece at %d of %d: %v", at, n, e)
			}
			joined = append(joined, piece...)
		}
		if !bytes.Equal(joined, whole) {
			t.Errorf("%d bytes in pieces are not as the whole", n)
		}
	}
}

// P2.4: one byte changed changes what stands at its place alone.
func TestXorHangsOnEachByteAlone(t *testing.T) {
	key, nonce := rising(), [12]byte{4}
	b := row(200)
	whole, _ := chacha.Xor(key, nonce, 0, b)
	for i := range b {
		other := bytes.Clone(b)
		other[i] ^= 0x5a
		got, e := chacha.Xor(key, nonce, 0, other)
		want := bytes.Clone(whole)
		want[i] ^= 0x5a
		if e != api.OK || !bytes.Equal(got, want) {
			t.Errorf("byte %d: %v", i, e)
		}
		front, e := chacha.Xor(key, nonce, 0, b[:i])
		if e != api.OK || !bytes.Equal(front, whole[:i]) {
			t.Errorf("the first %d: %v", i, e)
		}
	}
}

// Rules 4 and 5: what is handed in, and what lies behind it, stays; the answer is new memory.
func TestXorLeavesWhatIsHandedIn(t *testing.T) {
	whole := row(100)
	b := whole[:30]
	got, e := chacha.Xor(rising(), [12]byte{}, 0, b)
	if e != api.OK || len(got) != 30 || !bytes.Equal(whole, row(100)) {
		t.Errorf("Xor changed what it was handed: %v", e)
	}
	got[0] ^= 1
	_ = append(got, 1, 2, 3)
	if !bytes.Equal(whole, row(100)) {
		t.Error("the answer shares memory with what was handed in")
	}
	again, _ := chacha.Xor(rising(), [12]byte{}, 0, b)
	if again[0] == got[0] {
		t.Error("an answer is kept")
	}
}
