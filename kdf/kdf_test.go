package kdf_test

import (
	"bytes"
	"crypto/hkdf"
	"crypto/hmac"
	"hash"
	"strconv"
	"testing"

	"adit/api"
	"adit/blake"
	"adit/kdf"
	"adit/words"
)

// rowBy is n bytes, each greater by step than the one ahead.
func rowBy(n, step, first int) []byte {
	out := make([]byte, n)
	for i := range out {
		out[i] = byte(i*step + first)
	}
	return out
}

// row is n bytes.
func row(n int) []byte { return rowBy(n, 7, 1) }

// keyOf is a key that begins with bytes.
func keyOf(b []byte) [32]byte {
	var out [32]byte
	copy(out[:], b)
	return out
}

// keys are keys at their edges, and ordinary ones.
func keys() [][32]byte {
	return [][32]byte{
		{}, {1}, {31: 1}, keyOf(bytes.Repeat([]byte{255}, 32)), keyOf(bytes.Repeat([]byte{54}, 32)), keyOf(bytes.Repeat([]byte{92}, 32)),
		keyOf(row(32)), keyOf(rowBy(32, 5, 3)),
	}
}

// lengths are those of keys and texts about the edges of sums and blocks, and long ones.
func lengths() []int {
	return []int{0, 1, 2, 31, 32, 33, 62, 63, 64, 65, 66, 127, 128, 129, 192, 200, 1500, api.MaxText + 1}
}

// adapter is the sum of 32 bytes, as other programs ask for it.
type adapter struct{ h *blake.Hash }

func (a *adapter) Write(b []byte) (int, error) { a.h.Write(b); return len(b), nil }
func (a *adapter) Reset()                      { a.h, _ = blake.New(32, nil) }
func (a *adapter) Size() int                   { return 32 }
func (a *adapter) BlockSize() int              { return 64 }
func (a *adapter) Sum(b []byte) []byte {
	sum, _ := a.h.Sum()
	return append(b, sum...)
}

// adapted is an adapter of nothing.
func adapted() hash.Hash {
	a := &adapter{}
	a.Reset()
	return a
}

// another is another program's mark.
func another(key, b []byte) []byte {
	h := hmac.New(adapted, key)
	h.Write(b)
	return h.Sum(nil)
}

// wanted is the mark, as the chapter's words have it.
func wanted(key, b []byte) [32]byte {
	if len(key) > 64 {
		short := blake.Sum32(key)
		key = short[:]
	}
	var inner, outer []byte
	for i := range 64 {
		v := byte(0)
		if i < len(key) {
			v = key[i]
		}
		inner, outer = append(inner, v^54), append(outer, v^92)
	}
	sum := blake.Sum32(append(inner, b...))
	return blake.Sum32(append(outer, sum[:]...))
}

// wantedChain is t0, t1, t2 and t3, as the chapter's words have it.
func wantedChain(key [32]byte, b []byte) [4][32]byte {
	var t [4][32]byte
	t[0] = wanted(key[:], b)
	t[1] = wanted(t[0][:], []byte{1})
	t[2] = wanted(t[0][:], append(t[1][:], 2))
	t[3] = wanted(t[0][:], append(t[2][:], 3))
	return t
}

// P8.1: marks that yet another program made.
func TestToldMarks(t *testing.T) {
	for _, c := range []struct {
		key, text int
		want      string
	}{
		{0, 0, "eaf4bb25938f4d20e72656bbbc7a9bf63c0c18537333c35bdb67db1402661acd"},
		{1, 3, "7243e80999c3bebd87593fcf6bf4c223f7e1cf605a956d87ef9e2fa58b9601ea"},
		{32, 0, "6742cb7da299ece6134643a2648547e903a0069f820ce3928bbdfe0f8fdd5eb3"},
		{32, 32, "602fcbcc2652bd3aa2e4f08dd156a00f101feac291e9af1c65f59fd730d20428"},
		{63, 10, "3918b01ce15ba59d6307e0c31bea4f028fc5e59c61d40719654854df79d9344b"},
		{64, 64, "7529121b450e4dbca079c5324536d1c41fa7f2094da8c5da2a0596b4fb338de3"},
		{65, 64, "5d1d99403c6b01dfedddb8b56e5984c505f1236822edee1e8cba893575490caa"},
		{64, 65, "bd5645ec11f60a954859e652456071e684e675e260a427a3985b7c9c7674d56a"},
		{100, 200, "961b314a7aa9bdb335946e6329f474a3938c524075a39aca692b5b666d5d4719"},
		{200, 1, "fdd84866b3755fa72301247a57f6134afca653c26fcffac008105405056668c8"},
	} {
		if got := kdf.Mac(row(c.key), rowBy(c.text, 5, 3)); words.Hex(got[:]) != c.want {
			t.Errorf("a key of %d and a text of %d: %x", c.key, c.text, got)
		}
	}
}

// P8.1: keys and texts of each length, as told and as another program has it.
func TestMac(t *testing.T) {
	for _, k := range lengths() {
		for _, n := range lengths() {
			key, text := row(k), rowBy(n, 5, 3)
			got := kdf.Mac(key, text)
			if got != wanted(key, text) || !bytes.Equal(got[:], another(key, text)) {
				t.Errorf("a key of %d and a text of %d: %x", k, n, got)
			}
		}
	}
	for n := range 200 {
		if got := kdf.Mac(row(n), row(10)); got != wanted(row(n), row(10)) {
			t.Errorf("a key of %d: %x", n, got)
		}
		if got := kdf.Mac(row(10), row(n)); got != wanted(row(10), row(n)) {
			t.Errorf("a text of %d: %x", n, got)
		}
	}
}

// P8.1: each digit of the key and of the text, and where the text ends, count; key and text do not flow together.
func TestMacHangsOnAll(t *testing.T) {
	const n, k = 70, 100
	seen := map[[32]byte]string{}
	put := func(what string, key, text []byte) {
		got := kdf.Mac(key, text)
		if other, ok := seen[got]; ok {
			t.Errorf("%s is as %s", what, other)
		}
		seen[got] = what
	}
	for _, k := range []int{32, 64, k} {
		put("a key of "+strconv.Itoa(k), row(k), row(n))
		for i := range 8 * k {
			key := row(k)
			key[i/8] ^= 1 << (i % 8)
			put("a key of "+strconv.Itoa(k)+" with digit "+strconv.Itoa(i), key, row(n))
		}
	}
	for i := range 8 * n {
		text := row(n)
		text[i/8] ^= 1 << (i % 8)
		put("a text with digit "+strconv.Itoa(i), row(k), text)
	}
	for i := range n {
		put("the text's first "+strconv.Itoa(i), row(k), row(n)[:i])
		put(strconv.Itoa(i)+" of the text in the key", row(n)[:i], row(n)[i:])
	}
}

// P8.2: what is published of chains (wireguard-go's own tests; a key with noughts behind it is as it).
func TestPublishedChains(t *testing.T) {
	for _, c := range []struct{ key, text, one, two, three string }{
		{"test-key", "test-input", "6f0e5ad38daba1bea8a0d213688736f19763239305e0f58aba697f9ffc41c633", "df1194df20802a4fe594cde27e92991c8cae66c366e8106aaa937a55fa371e8a", "fac6e2745a325f5dc5d11a5b165aad08b0ada28e7b4e666b7c077934a4d76c24"},
		{"wireguard", "wireguard", "491d43bbfdaa8750aaf535e334ecbfe5129967cd64635101c566d4caefda96e8", "1e71a379baefd8a79aa4662212fcafe19a23e2b609a3db7d6bcba8f560e3d25f", "31e1ae48bddfbe5de38f295e5452b1909a1b4e38e183926af3780b0c1e1f0160"},
		{"", "", "8387b46bf43eccfcf349552a095d8315c4055beb90208fb1be23b894bc2ed5d0", "58a0e5f6faefccf4807bff1f05fa8a9217945762040bcec2f4b4a62bdfe0e86e", "0ce6ea98ec548f8e281e93e32db65621c45eb18dc6f0a7ad94178610a2f7338e"},
	} {
		one, two, three := kdf.Chain3(keyOf([]byte(c.key)), []byte(c.text))
		if words.Hex(one[:]) != c.one || words.Hex(two[:]) != c.two || words.Hex(three[:]) != c.three {
			t.Errorf("%q: %x %x %x", c.key, one, two, three)
		}
	}
}

// P8.2, P8.5: chains of each length, as told; a shorter one is a beginning of a longer one.
func TestChains(t *testing.T) {
	for _, key := range keys() {
		for _, n := range lengths() {
			text := rowBy(n, 5, 3)
			want := wantedChain(key, text)
			if got := kdf.Chain1(key, text); got != want[1] {
				t.Errorf("Chain1 of %x and %d bytes: %x", key, n, got)
			}
			if one, two := kdf.Chain2(key, text); one != want[1] || two != want[2] {
				t.Errorf("Chain2 of %x and %d bytes: %x %x", key, n, one, two)
			}
			if one, two, three := kdf.Chain3(key, text); one != want[1] || two != want[2] || three != want[3] {
				t.Errorf("Chain3 of %x and %d bytes: %x %x %x", key, n, one, two, three)
			}
		}
	}
}

// P8.2: what another program makes of the same.
func TestChainsAgainstAnother(t *testing.T) {
	for _, key := range keys() {
		for _, n := range []int{0, 1, 32, 64, 65, 200} {
			want, err := hkdf.Key(adapted, row(n), key[:], "", 96)
			if err != nil {
				t.Fatal(err)
			}
			one, two, three := kdf.Chain3(key, row(n))
			if got := append(append(one[:], two[:]...), three[:]...); !bytes.Equal(got, want) {
				t.Errorf("%x and %d bytes: %x, want %x", key, n, got, want)
			}
		}
	}
}

// P8.5: a shorter chain is a beginning of a longer one, and asking for one leaves nothing behind for the next.
func TestShorterChains(t *testing.T) {
	for _, key := range keys() {
		for n := range 100 {
			one, two, three := kdf.Chain3(key, row(n))
			first, second := kdf.Chain2(key, row(n))
			if kdf.Chain1(key, row(n)) != one || first != one || second != two {
				t.Errorf("%x and %d bytes: no beginning", key, n)
			}
			if a, b, c := kdf.Chain3(key, row(n)); a != one || b != two || c != three {
				t.Errorf("%x and %d bytes: unlike the second time", key, n)
			}
		}
	}
}

// P8.2: the links of a chain, and those of unlike keys and texts, are unlike.
func TestUnlikeLinks(t *testing.T) {
	seen := map[[32]byte]int{}
	for _, key := range keys() {
		for _, text := range [][]byte{nil, {0}, {1}, row(2), row(32), row(100)} {
			one, two, three := kdf.Chain3(key, text)
			for _, link := range [][32]byte{one, two, three, kdf.Mac(key[:], text)} {
				seen[link]++
			}
		}
	}
	if want := len(keys()) * 6 * 4; len(seen) != want {
		t.Errorf("%d unlike links, want %d", len(seen), want)
	}
}

// P8.3: the sum of both, one behind the other.
func TestJoin(t *testing.T) {
	for _, a := range keys() {
		for _, n := range lengths() {
			want := blake.Sum32(append(bytes.Clone(a[:]), row(n)...))
			if got := kdf.Join(a, row(n)); got != want {
				t.Errorf("Join of %x and %d bytes: %x", a, n, got)
			}
		}
	}
	if got := kdf.Join(keyOf(row(32)), nil); got != blake.Sum32(row(32)) {
		t.Errorf("Join with nothing: %x", got)
	}
}

// P8.3: the first sums of the tunnel's handshake, as published.
func TestPublishedJoin(t *testing.T) {
	first := blake.Sum32([]byte("Noise_IKpsk2_25519_ChaChaPoly_BLAKE2s"))
	if words.Hex(first[:]) != "60e26daef327efc02ec335e2a025d2d016eb4206f87277f52d38d1988b78cd36" {
		t.Errorf("the first chain: %x", first)
	}
	got := kdf.Join(first, []byte("WireGuard v1 zx2c4 Jason@zx2c4.com"))
	if words.Hex(got[:]) != "2211b361081ac566691243db458ad5322d9c6c662293e8b70ee19c65ba079ef3" {
		t.Errorf("the first hash: %x", got)
	}
}

// P8.4: a key of up to 64 bytes is as it with noughts behind it.
func TestKeysWithNoughtsBehind(t *testing.T) {
	for n := 0; n <= 64; n++ {
		want := kdf.Mac(row(n), row(20))
		for more := 1; n+more <= 64; more++ {
			if got := kdf.Mac(append(row(n), make([]byte, more)...), row(20)); got != want {
				t.Errorf("a key of %d with %d noughts: %x, want %x", n, more, got, want)
			}
		}
		if got := kdf.Mac(append(row(n), make([]byte, 65-n)...), row(20)); got == want {
			t.Errorf("a key of %d is as it with noughts up to 65", n)
		}
	}
	if kdf.Mac(nil, row(5)) != kdf.Mac([]byte{}, row(5)) || kdf.Mac(nil, row(5)) != kdf.Mac(make([]byte, 64), row(5)) {
		t.Error("no key is not as noughts")
	}
}

// P8.4: a longer key is as its sum, one of 64 bytes is not.
func TestLongKeys(t *testing.T) {
	for _, n := range []int{65, 66, 100, 127, 128, 129, 1000, api.MaxText, api.MaxText + 1} {
		short := blake.Sum32(row(n))
		for _, text := range [][]byte{nil, row(1), row(64), row(100)} {
			if kdf.Mac(row(n), text) != kdf.Mac(short[:], text) {
				t.Errorf("a key of %d is not as its sum", n)
			}
		}
	}
	for _, n := range []int{0, 32, 63, 64} {
		short := blake.Sum32(row(n))
		if kdf.Mac(row(n), row(9)) == kdf.Mac(short[:], row(9)) {
			t.Errorf("a key of %d is as its sum", n)
		}
	}
}

// Rules 4 and 5: what is handed in is not changed, what lies behind it is not read nor written.
func TestWhatIsHandedInStays(t *testing.T) {
	for _, k := range []int{0, 10, 64, 65, 90} {
		key, text := row(200), rowBy(200, 5, 3)
		if got := kdf.Mac(key[:k], text[:70]); got != wanted(row(k), rowBy(70, 5, 3)) {
			t.Errorf("Mac reads behind a key of %d: %x", k, got)
		}
		first := keyOf(key)
		one, _, three := kdf.Chain3(first, text[:k])
		if want := wantedChain(first, rowBy(k, 5, 3)); one != want[1] || three != want[3] {
			t.Errorf("Chain3 reads behind a text of %d", k)
		}
		if got := kdf.Join(first, text[:k]); got != blake.Sum32(append(first[:], rowBy(k, 5, 3)...)) {
			t.Errorf("Join reads behind a text of %d: %x", k, got)
		}
		if !bytes.Equal(key, row(200)) || !bytes.Equal(text, rowBy(200, 5, 3)) {
			t.Errorf("what was handed in is changed, at %d", k)
		}
	}
}
