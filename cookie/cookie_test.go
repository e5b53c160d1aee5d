package cookie_test

import (
	"bytes"
	"math"
	"math/rand/v2"
	"slices"
	"testing"

	"adit/aead"
	"adit/api"
	"adit/blake"
	"adit/cidr"
	"adit/cookie"
	"adit/curve"
	"adit/noise"
	"adit/wire"
	"adit/words"
)

// row is n ordinary bytes, unlike for each seed.
func row(seed, n int) []byte {
	out := make([]byte, n)
	for i := range out {
		out[i] = byte((seed+3)*(i+5)*(i+seed+11)/3 + seed)
	}
	return out
}

// full is n bytes of 255.
func full(n int) []byte { return bytes.Repeat([]byte{255}, n) }

// key is an ordinary key, unlike for each seed.
func key(seed int) api.Key { return api.Key(row(seed, 32)) }

// mark is an ordinary mark, or cookie, unlike for each seed.
func mark(seed int) [16]byte { return [16]byte(row(seed+70, 16)) }

// long is an ordinary long nonce, unlike for each seed.
func long(seed int) [24]byte { return [24]byte(row(seed+40, 24)) }

// keys are keys at their edges, and ordinary ones.
func keys() []api.Key {
	return []api.Key{{}, api.Key(full(32)), {1}, {31: 128}, key(1), key(2)}
}

// marks are marks, or cookies, at their edges, and ordinary ones.
func marks() [][16]byte {
	return [][16]byte{{}, [16]byte(full(16)), {1}, {15: 128}, mark(1), mark(2)}
}

// unhex is digits' bytes.
func unhex(t *testing.T, s string) []byte {
	t.Helper()
	b, f := words.Unhex(s)
	if f != (api.Fault{}) {
		t.Fatalf("%q: %v", s, f)
	}
	return b
}

// hello is an ordinary Hello's bytes, with something at its marks.
func hello(seed int) []byte {
	return append([]byte{1, 0, 0, 0}, row(seed, 144)...)
}

// answer is an ordinary Answer's bytes, with something at its marks.
func answer(seed int) []byte {
	return append([]byte{2, 0, 0, 0}, row(seed, 88)...)
}

// handshakes are those at their edges, and ordinary ones.
func handshakes() [][]byte {
	return [][]byte{
		wire.WriteHello(wire.HelloMsg{}),
		wire.WriteAnswer(wire.AnswerMsg{}),
		append([]byte{1, 0, 0, 0}, full(144)...),
		append([]byte{2, 0, 0, 0}, full(88)...),
		hello(1), hello(2), answer(1), answer(2),
	}
}

// wrongOnes are bytes that are no handshake's.
func wrongOnes() [][]byte {
	out := [][]byte{nil, {}, {1}, {1, 0, 0}, {1, 0, 0, 0}, {2, 0, 0, 0}, make([]byte, 148), make([]byte, 92)}
	for _, n := range []int{4, 16, 31, 32, 33, 64, 91, 92, 93, 147, 148, 149, 164, 1500, api.MaxText + 1} {
		for kind := range 7 {
			b := append([]byte{byte(kind), 0, 0, 0}, row(n, n-4)...)
			if kind != 1 && kind != 2 || kind == 1 && n != 148 || kind == 2 && n != 92 {
				out = append(out, b)
			}
		}
	}
	for _, right := range [][]byte{hello(1), answer(1)} {
		for i := 1; i < 4; i++ {
			b := slices.Clone(right)
			b[i] = 1
			out = append(out, b)
		}
		for _, kind := range []byte{0, 3, 4, 5, 129, 130, 255} {
			b := slices.Clone(right)
			b[0] = kind
			out = append(out, b)
		}
		out = append(out, right[:len(right)-1], append(slices.Clone(right), 0), right[1:])
	}
	data, _ := wire.WriteData(wire.DataMsg{Box: row(1, 32)})
	return append(out, data, wire.WriteCookie(wire.CookieMsg{Receiver: 1}))
}

// sumOf is the sum of 16 bytes of parts, one behind the other.
func sumOf(key []byte, parts ...[]byte) [16]byte {
	sum, _ := blake.Sum(16, key, bytes.Join(parts, nil))
	return [16]byte(sum)
}

// keyOf is the key of a label and public bytes.
func keyOf(label string, public api.Key) api.Key {
	return blake.Sum32([]byte(label + string(public[:])))
}

// wantedMarks are both marks of a handshake, as the chapter's words have it.
func wantedMarks(b []byte, public api.Key, told [16]byte) ([16]byte, [16]byte) {
	front, k := b[:len(b)-32], keyOf("mac1----", public)
	first := sumOf(k[:], front)
	return first, sumOf(told[:], front, first[:])
}

// told is what another program made: the public bytes, a handshake without marks, its Mac1, the nonce and the box of a Cookie, the cookie, and the handshake's Mac2 with it.
type told struct {
	public, front, first, nonce, box, cookie, second string
}

// toldOnes are what another program made.
func toldOnes() []told {
	return []told{
		{
			public: "3ca9938ecf8cfc5f01abd0ae774bc11fd8c0d53032595690103e45d33bccbb54",
			front:  "010000004394dda19b6bdda1fe4518619402327300b544edd7abe56882e609f7b5c625d5ed9b8930f0a6282bfc86a2b5955dbe46e534f25e7d3c4f72de4750dd6f33cb9e8a058c5826f3c5f779e2f075c2706d1f38cdfae7e18396768418fb45a16c5a641163bfa4cae04c5eff549ef20e69119e",
			first:  "cba7c72a99ee476e114f28484e85eaf9",
			nonce:  "e2bbd36f16261b73f0be1373e9315837ced3e00598a4a78f",
			box:    "b685a55db5b3edc322f2edd17e7e39b710b0194c8882abd5e9ac31552492daff",
			cookie: "e79b7befc76fc44d3bdecd40201891fd",
			second: "3f48fb0b3717220927bb87d0b3d70b5e",
		},
		{
			public: "3ad272a6f7050d96616a698cf8a78afac683200f77dbc775b7cf1f7c464539f9",
			front:  "02000000e8560aa71049655cf6f0649352c02e492d094e43a5df4aa2561e48f155c6adccf472ab6455d5236293ce0188413c3e151a4b0e40727a8fb4",
			first:  "2f1065c8c6f4140406fb2f018b8f06ac",
			nonce:  "ccd68b0fa211c15767e44aa96caff831e376fea5be3c1c81",
			box:    "87d16eedf25a00e04a84331d5394c513244047e1b1c864ced3be42fb7bb0a550",
			cookie: "db53a073f79258f1092d14ff324e6dbb",
			second: "523a6233615a5bb3383d6cdf6b189a9e",
		},
		{
			public: "e3e68f7681bfc49675c0612501dc94c838fee2691a21453d2fa22fff30d61bdc",
			front:  "0100000081e6a2b95a1473c4c13191ea5dbab49b13d99bed087aaf6250db9eeb7eff937bd41ea10f74ce4ef772c9ab7ba90963f4c4ad52fd5f0f9d69426c5868cc48d7b14cbc5616b1edc4c22c25e17a6aa883685574a6504d0702d54303459bfa82d3bf2078930bd2ea9c25b23c00176bd4c732",
			first:  "4a28c9e23f775672a3efe84b9dc89cf3",
			nonce:  "06f2560f00e8eb74218e411aef8bdcf4cf80d0d48b0c0bc1",
			box:    "8da99a300bfb0e43d5ee62586f04f70ce8acfd1024a7b7b7d11e3cf37ea1b559",
			cookie: "7ee3bfda426e66d167b582a7628fe033",
			second: "811cd8b63f33cd4ebd15b383238b9909",
		},
		{
			public: "993b9a3714edcb20717a973850372ab27bb489152572bb88cc654e77dcf5ddfe",
			front:  "020000006431bed391f9ae82bfc3a2f052efd7c804cfcb65960d50bfcc38284ff4b44c427e3b3e5c2041729e965f61f471c46256d6078bbf5a20c474",
			first:  "5bab2a14b0a36613909b895e89ed0dc4",
			nonce:  "36d746e8eb861271c7e8f22ef55adca43561ad57c240797e",
			box:    "e658074228825362ac875b1d96dbba74e96b9e265165333ba74cfabf921b763b",
			cookie: "2ce1c1409bc7424af9d172082ba73861",
			second: "38251d760165e53c50b273e27246b62f",
		},
	}
}

// P19.1 to P19.3: marks and cookies that another program made.
func TestTold(t *testing.T) {
	for i, c := range toldOnes() {
		public, front, bare := api.Key(unhex(t, c.public)), unhex(t, c.front), unhex(t, c.front)
		bare = append(bare, make([]byte, 32)...)
		first, second, word := [16]byte(unhex(t, c.first)), [16]byte(unhex(t, c.second)), [16]byte(unhex(t, c.cookie))
		b, e := cookie.Mark(bare, public)
		if want := slices.Concat(front, first[:], make([]byte, 16)); e != api.OK || !bytes.Equal(b, want) {
			t.Errorf("%d: Mark: %v %x", i, e, b)
		}
		nonce := [24]byte(unhex(t, c.nonce))
		m, e := cookie.Tell(b, public, nonce, word)
		sender, _ := words.Load32(front, 4)
		if want := (wire.CookieMsg{Receiver: sender, Nonce: nonce, Box: [32]byte(unhex(t, c.box))}); e != api.OK || m != want {
			t.Errorf("%d: Tell: %v %x", i, e, m)
		}
		if got, e := cookie.Hear(m, public, first); e != api.OK || got != word {
			t.Errorf("%d: Hear: %v %x", i, e, got)
		}
		b, e = cookie.MarkBoth(bare, public, word)
		if want := slices.Concat(front, first[:], second[:]); e != api.OK || !bytes.Equal(b, want) {
			t.Errorf("%d: MarkBoth: %v %x", i, e, b)
		}
		if !cookie.Check1(b, public) || !cookie.Check2(b, word) {
			t.Errorf("%d: its marks are not right", i)
		}
	}
}

// P19.1, P19.4: Mark and MarkBoth, whatever stood at the marks.
func TestMark(t *testing.T) {
	for i, b := range handshakes() {
		front := b[:len(b)-32]
		for j, public := range keys() {
			for k, word := range marks() {
				first, second := wantedMarks(b, public, word)
				was := slices.Clone(b)
				got, e := cookie.Mark(b, public)
				if want := slices.Concat(front, first[:], make([]byte, 16)); e != api.OK || !bytes.Equal(got, want) {
					t.Fatalf("%d %d: Mark: %v %x", i, j, e, got)
				}
				if !cookie.Check1(got, public) {
					t.Errorf("%d %d: not right", i, j)
				}
				again, _ := cookie.Mark(got, public)
				both, e := cookie.MarkBoth(b, public, word)
				if want := slices.Concat(front, first[:], second[:]); e != api.OK || !bytes.Equal(both, want) {
					t.Fatalf("%d %d %d: MarkBoth: %v %x", i, j, k, e, both)
				}
				if !cookie.Check1(both, public) || !cookie.Check2(both, word) {
					t.Errorf("%d %d %d: not right", i, j, k)
				}
				bothAgain, _ := cookie.MarkBoth(got, public, word)
				if !bytes.Equal(again, got) || !bytes.Equal(bothAgain, both) || !bytes.Equal(b, was) {
					t.Errorf("%d %d %d: marked again it is another one, or what was handed in changed", i, j, k)
				}
			}
		}
	}
}

// P19.1: Mac1 is what stands there, right or not.
func TestMac1(t *testing.T) {
	for i, b := range handshakes() {
		n := len(b)
		for j, first := range marks() {
			copy(b[n-32:], first[:])
			if got, e := cookie.Mac1(b); e != api.OK || got != first {
				t.Errorf("%d %d: %v %x", i, j, e, got)
			}
		}
		marked, _ := cookie.Mark(b, key(1))
		want, _ := wantedMarks(b, key(1), mark(1))
		if got, e := cookie.Mac1(marked); e != api.OK || got != want {
			t.Errorf("%d: %v %x", i, e, got)
		}
	}
}

// P19.1 to P19.3: bytes that are no handshake's; nothing is told beside the error.
func TestNoHandshake(t *testing.T) {
	for i, b := range wrongOnes() {
		was := slices.Clone(b)
		if got, e := cookie.Mark(b, key(1)); e != api.ErrKind || len(got) != 0 {
			t.Errorf("%d: Mark: %v %x", i, e, got)
		}
		if got, e := cookie.MarkBoth(b, key(1), mark(1)); e != api.ErrKind || len(got) != 0 {
			t.Errorf("%d: MarkBoth: %v %x", i, e, got)
		}
		if got, e := cookie.Mac1(b); e != api.ErrKind || got != [16]byte{} {
			t.Errorf("%d: Mac1: %v %x", i, e, got)
		}
		if got, e := cookie.Tell(b, key(1), long(1), mark(1)); e != api.ErrKind || got != (wire.CookieMsg{}) {
			t.Errorf("%d: Tell: %v %x", i, e, got)
		}
		if cookie.Check1(b, key(1)) || cookie.Check2(b, mark(1)) {
			t.Errorf("%d: its marks are right", i)
		}
		if !bytes.Equal(b, was) {
			t.Errorf("%d: changed", i)
		}
	}
}

// P19.2: bytes that are no handshake's are not right, though marks stand behind them that would be.
func TestNoHandshakeMarked(t *testing.T) {
	for i, b := range wrongOnes() {
		if len(b) < 32 {
			continue
		}
		first, second := wantedMarks(b, key(1), mark(1))
		b = slices.Concat(b[:len(b)-32], first[:], second[:])
		if cookie.Check1(b, key(1)) || cookie.Check2(b, mark(1)) {
			t.Errorf("%d: right", i)
		}
	}
}

// P19.2, P19.6: a handshake that is turned anywhere that counts is not right; Mac2 does not count for Mac1.
func TestCheckTurned(t *testing.T) {
	for i, b := range handshakes() {
		b, _ = cookie.MarkBoth(b, key(1), mark(1))
		for at := range b {
			for n := range 8 {
				turned := slices.Clone(b)
				turned[at] ^= 1 << n
				if got, want := cookie.Check1(turned, key(1)), at >= len(b)-16; got != want {
					t.Errorf("%d: %d %d: Check1: %v", i, at, n, got)
				}
				if cookie.Check2(turned, mark(1)) {
					t.Errorf("%d: %d %d: Check2", i, at, n)
				}
			}
		}
	}
}

// P19.2: each mark's own key counts, in each of its bytes, and no other one.
func TestCheckOfOthers(t *testing.T) {
	for i, b := range handshakes() {
		for j, public := range keys() {
			for k, word := range marks() {
				both, _ := cookie.MarkBoth(b, public, word)
				for n, other := range keys() {
					if got := cookie.Check1(both, other); got != (j == n) {
						t.Errorf("%d: %d %d: Check1: %v", i, j, n, got)
					}
				}
				for n, other := range marks() {
					if got := cookie.Check2(both, other); got != (k == n) {
						t.Errorf("%d: %d %d: Check2: %v", i, k, n, got)
					}
				}
			}
		}
	}
	b, _ := cookie.MarkBoth(hello(1), key(1), mark(1))
	for i := range 32 {
		other := key(1)
		other[i] ^= 1 << (i % 8)
		if cookie.Check1(b, other) {
			t.Errorf("byte %d of the public bytes does not count", i)
		}
	}
	for i := range 16 {
		other := mark(1)
		other[i] ^= 1 << (i % 8)
		if cookie.Check2(b, other) {
			t.Errorf("byte %d of the cookie does not count", i)
		}
	}
}

// P19.2: Mac2 is held against the Mac1 that stands there, right or not; a Mac2 of noughts is no cookie's.
func TestCheckEachAlone(t *testing.T) {
	for i, b := range handshakes() {
		n, word := len(b), mark(1)
		second := sumOf(word[:], b[:n-16])
		copy(b[n-16:], second[:])
		if cookie.Check1(b, key(1)) || !cookie.Check2(b, word) {
			t.Errorf("%d: with another Mac1", i)
		}
		b, _ = cookie.Mark(b, key(1))
		if !cookie.Check1(b, key(1)) || cookie.Check2(b, word) || cookie.Check2(b, [16]byte{}) {
			t.Errorf("%d: with a Mac2 of noughts", i)
		}
	}
}

// end is that of a text.
func end(t *testing.T, s string, port int) api.End {
	t.Helper()
	a, e := cidr.Parse(s)
	if e != api.OK {
		t.Fatalf("%q: %v", s, e)
	}
	return api.End{Addr: a, Port: port}
}

// P19.3: cookies that another program made.
func TestMakeTold(t *testing.T) {
	const noughts = "0000000000000000000000000000000000000000000000000000000000000000"
	const rising = "000102030405060708090a0b0c0d0e0f101112131415161718191a1b1c1d1e1f"
	const ones = "ffffffffffffffffffffffffffffffffffffffffffffffffffffffffffffffff"
	for _, c := range []struct {
		secret, addr string
		port         int
		want         string
	}{
		{noughts, "0.0.0.0", 1, "cfcd0ea95b6791e154dbeb61adba51fe"},
		{noughts, "::", 1, "91c3d4c17b96db7045d65629cca8161a"},
		{rising, "192.0.2.1", 51820, "ee2cc9ff37ac53f9db71b2b6d874a1ed"},
		{rising, "192.0.2.1", 51821, "4ff3f20c55e2494304f7f7aa4594893b"},
		{rising, "2001:db8::1", 51820, "2c2f47e209324615b40a2a195be2221c"},
		{rising, "10.0.0.1", 255, "49a65c5796084434ad4fbb90f51fe98a"},
		{rising, "10.0.0.1", 256, "e5c11e5633d7b61128c795f43966ab2e"},
		{rising, "::ffff:a00:1", 258, "a3d0af2962ad47a8935340a7fe45c189"},
		{ones, "255.255.255.255", 65535, "cea285cde28a3eb5a8295af1cc18d1cc"},
		{ones, "ffff:ffff:ffff:ffff:ffff:ffff:ffff:ffff", 65535, "c5579b554536d32e7587cb4f778da959"},
	} {
		got, e := cookie.Make([32]byte(unhex(t, c.secret)), end(t, c.addr, c.port))
		if e != api.OK || got != [16]byte(unhex(t, c.want)) {
			t.Errorf("%s %d: %v %x", c.addr, c.port, e, got)
		}
	}
}

// P19.3: the cookie, of secrets and ends at their edges, as the chapter's words have it.
func TestMake(t *testing.T) {
	for i, secret := range keys() {
		for _, s := range []string{"0.0.0.0", "1.2.3.4", "255.255.255.255", "::", "102:304::", "::1", "2001:db8::1", "ffff:ffff:ffff:ffff:ffff:ffff:ffff:ffff"} {
			for _, port := range []int{1, 2, 255, 256, 257, 32767, 32768, 51820, 65534, 65535} {
				e := end(t, s, port)
				b := append([]byte{0}, e.Addr.B[:]...)
				if e.Addr.Six {
					b[0] = 1
				}
				b = append(b, byte(port), byte(port>>8))
				if got, wrong := cookie.Make(secret, e); wrong != api.OK || got != sumOf(secret[:], b) {
					t.Errorf("%d %s %d: %v %x", i, s, port, wrong, got)
				}
			}
		}
	}
}

// P19.3: an end that has no text, whatever is wrong with it.
func TestMakeNoText(t *testing.T) {
	for _, port := range []int{0, -1, 65536, 65537, 1 << 16, 1<<16 + 51820, 1 << 32, 1<<32 + 1, math.MaxInt, math.MinInt, math.MinInt + 1} {
		for _, s := range []string{"0.0.0.0", "192.0.2.1", "::", "2001:db8::1"} {
			if got, e := cookie.Make(key(1), end(t, s, port)); e != api.ErrAddr || got != [16]byte{} {
				t.Errorf("%s %d: %v %x", s, port, e, got)
			}
		}
	}
	for i := 4; i < 16; i++ {
		for _, port := range []int{0, 1, 51820, 65536} {
			e := end(t, "192.0.2.1", port)
			e.Addr.B[i] = 1
			if got, wrong := cookie.Make(key(1), e); wrong != api.ErrAddr || got != [16]byte{} {
				t.Errorf("%d %d: %v %x", i, port, wrong, got)
			}
		}
	}
}

// P19.3: each digit of an end, and of a secret, has a cookie of its own.
func TestMakeUnlike(t *testing.T) {
	seen := map[[16]byte]int{}
	note := func(secret [32]byte, e api.End) {
		got, wrong := cookie.Make(secret, e)
		if wrong != api.OK {
			t.Fatalf("%v: %v", e, wrong)
		}
		seen[got]++
	}
	want := 0
	for _, s := range []string{"192.0.2.1", "c000:201::"} {
		e := end(t, s, 1<<15)
		note(key(1), e)
		want++
		for n := range 16 {
			other := e
			other.Port ^= 1 << n
			if other.Port != 0 {
				note(key(1), other)
				want++
			}
		}
		for n := range 128 {
			other := e
			other.Addr.B[n/8] ^= 1 << (n % 8)
			if cidr.Right(other.Addr) {
				note(key(1), other)
				want++
			}
		}
		for n := range 256 {
			other := key(1)
			other[n/8] ^= 1 << (n % 8)
			note(other, e)
			want++
		}
	}
	if len(seen) != want {
		t.Errorf("%d cookies of %d", len(seen), want)
	}
}

// P19.3: the Cookie, of what it is told with at its edges, as the chapter's words have it; the Mac1 that stands there counts, right or not.
func TestTell(t *testing.T) {
	nonces := [][24]byte{{}, [24]byte(full(24)), {1}, {15: 1}, {16: 1}, {23: 128}, long(1)}
	for i, b := range handshakes() {
		for j, public := range keys() {
			for k, word := range marks() {
				nonce := nonces[(i+j+k)%len(nonces)]
				open := slices.Clone(b[len(b)-32 : len(b)-16])
				box, _ := aead.XSeal(keyOf("cookie--", public), nonce, word[:], open)
				want := wire.CookieMsg{Nonce: nonce, Box: [32]byte(box)}
				want.Receiver, _ = words.Load32(b, 4)
				m, e := cookie.Tell(b, public, nonce, word)
				if e != api.OK || m != want {
					t.Errorf("%d %d %d: %v %x", i, j, k, e, m)
				}
				if got, e := cookie.Hear(m, public, [16]byte(open)); e != api.OK || got != word {
					t.Errorf("%d %d %d: Hear: %v %x", i, j, k, e, got)
				}
			}
		}
	}
}

// P19.3: of a Hello and of an Answer the Receiver is who sent it.
func TestTellReceiver(t *testing.T) {
	for _, n := range []uint32{0, 1, 255, 256, 0x01020304, 1 << 31, math.MaxUint32} {
		m, e := cookie.Tell(wire.WriteHello(wire.HelloMsg{Sender: n}), key(1), long(1), mark(1))
		if e != api.OK || m.Receiver != n {
			t.Errorf("Hello %d: %v %d", n, e, m.Receiver)
		}
		m, e = cookie.Tell(wire.WriteAnswer(wire.AnswerMsg{Sender: n, Receiver: n + 1}), key(1), long(1), mark(1))
		if e != api.OK || m.Receiver != n {
			t.Errorf("Answer %d: %v %d", n, e, m.Receiver)
		}
	}
}

// unheard holds that a cookie is not heard.
func unheard(t *testing.T, m wire.CookieMsg, public api.Key, mac1 [16]byte) {
	t.Helper()
	if got, e := cookie.Hear(m, public, mac1); e != api.ErrTag || got != [16]byte{} {
		t.Errorf("Hear: %v %x", e, got)
	}
}

// P19.3: a Box, a nonce, public bytes or a Mac1 that is another one does not open; the Receiver is of no matter.
func TestHearTurned(t *testing.T) {
	b, _ := cookie.Mark(hello(1), key(1))
	first, _ := cookie.Mac1(b)
	m, _ := cookie.Tell(b, key(1), long(1), mark(1))
	for i := range 32 {
		turned, public := m, key(1)
		turned.Box[i] ^= 1 << (i % 8)
		unheard(t, turned, key(1), first)
		public[i] ^= 1 << (i % 8)
		unheard(t, m, public, first)
	}
	for i := range 24 {
		turned := m
		turned.Nonce[i] ^= 1 << (i % 8)
		unheard(t, turned, key(1), first)
	}
	for i := range 16 {
		turned := first
		turned[i] ^= 1 << (i % 8)
		unheard(t, m, key(1), turned)
	}
	unheard(t, wire.CookieMsg{}, api.Key{}, [16]byte{})
	unheard(t, wire.CookieMsg{}, key(1), first)
	m.Receiver++
	if got, e := cookie.Hear(m, key(1), first); e != api.OK || got != mark(1) {
		t.Errorf("with another Receiver: %v %x", e, got)
	}
}

// P19.3: the box key is not the mark key, and not the public bytes.
func TestHearOtherKey(t *testing.T) {
	first, word := mark(1), mark(2)
	for _, k := range []api.Key{key(1), keyOf("mac1----", key(1)), keyOf("cookie-", key(1)), keyOf("cookie--", key(2))} {
		box, _ := aead.XSeal(k, long(1), word[:], first[:])
		unheard(t, wire.CookieMsg{Nonce: long(1), Box: [32]byte(box)}, key(1), first)
	}
	box, _ := aead.XSeal(keyOf("cookie--", key(1)), long(1), word[:], nil)
	unheard(t, wire.CookieMsg{Nonce: long(1), Box: [32]byte(box)}, key(1), first)
}

// P19.5: a cookie that is told goes through the net, is heard as it was, and marks the next handshake; to others it says nothing.
func TestThereAndBack(t *testing.T) {
	r := rand.New(rand.NewPCG(19, 1))
	some := func(n int) []byte {
		out := make([]byte, n)
		for i := range out {
			out[i] = byte(r.Uint32())
		}
		return out
	}
	for range 300 {
		public, secret, nonce := api.Key(some(32)), [32]byte(some(32)), [24]byte(some(24))
		b := append([]byte{1, 0, 0, 0}, some(144)...)
		if r.IntN(2) == 0 {
			b = append([]byte{2, 0, 0, 0}, some(88)...)
		}
		from := api.End{Addr: api.Addr{Six: true, B: [16]byte(some(16))}, Port: 1 + r.IntN(65535)}
		b, _ = cookie.Mark(b, public)
		first, _ := cookie.Mac1(b)
		word, e := cookie.Make(secret, from)
		if e != api.OK || !cookie.Check1(b, public) || cookie.Check2(b, word) {
			t.Fatalf("%x: %v", b, e)
		}
		m, _ := cookie.Tell(b, public, nonce, word)
		came, e := wire.ReadCookie(wire.WriteCookie(m))
		if e != api.OK || came != m {
			t.Fatalf("%x: %v", m, e)
		}
		got, e := cookie.Hear(came, public, first)
		if e != api.OK || got != word {
			t.Fatalf("Hear: %v %x, want %x", e, got, word)
		}
		next, _ := cookie.MarkBoth(b, public, got)
		if !cookie.Check1(next, public) || !cookie.Check2(next, word) {
			t.Fatalf("not right: %x", next)
		}
		other, _ := cookie.Make(secret, api.End{Addr: from.Addr, Port: from.Port%65535 + 1})
		if cookie.Check2(next, other) {
			t.Fatalf("right for another end: %x", next)
		}
		unheard(t, came, api.Key(some(32)), first)
		unheard(t, came, public, [16]byte(some(16)))
	}
}

// P19.4: a handshake that is marked is read as it was, but for its marks, and is heard.
func TestMarkedIsHeard(t *testing.T) {
	_, m, e := noise.Begin(key(1), curve.Public(key(2)), key(3), [12]byte{4}, 5)
	if e != api.OK {
		t.Fatal(e)
	}
	b, _ := cookie.MarkBoth(wire.WriteHello(m), curve.Public(key(2)), mark(1))
	n, e := wire.ReadHello(b)
	if e != api.OK || n.Mac1 == m.Mac1 || n.Mac2 == m.Mac2 {
		t.Fatalf("%v %x", e, n)
	}
	if _, label, e := noise.Hear(key(2), n); e != api.OK || label != [12]byte{4} {
		t.Errorf("Hear: %v %x", e, label)
	}
	n.Mac1, n.Mac2 = m.Mac1, m.Mac2
	if n != m {
		t.Errorf("%x, want %x", n, m)
	}
}

// What is handed in is not changed, nor what lies behind it; what is handed out is memory of its own.
func TestMemory(t *testing.T) {
	for i, b := range handshakes() {
		whole := append(slices.Clone(b), full(64)...)
		was, in := slices.Clone(whole), whole[:len(b)]
		outs := [][]byte{}
		for range 2 {
			one, _ := cookie.Mark(in, key(1))
			two, _ := cookie.MarkBoth(in, key(1), mark(1))
			outs = append(outs, one, two)
		}
		cookie.Check1(in, key(1))
		cookie.Check2(in, mark(1))
		cookie.Mac1(in)
		cookie.Tell(in, key(1), long(1), mark(1))
		kept := slices.Clone(outs[2])
		for _, n := range []int{0, 1, 3} {
			clear(outs[n])
			clear(outs[n][:cap(outs[n])])
		}
		if !bytes.Equal(whole, was) || !bytes.Equal(outs[2], kept) || len(kept) != len(b) {
			t.Errorf("%d: %x", i, whole)
		}
	}
}

// The chapter's example.
func TestExample(t *testing.T) {
	if cookie.Check1([]byte("no handshake"), key(1)) || cookie.Check1(nil, api.Key{}) {
		t.Error("Check1")
	}
}
