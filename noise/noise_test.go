package noise_test

import (
	"bytes"
	"math"
	"math/rand/v2"
	"strings"
	"testing"

	"adit/aead"
	"adit/api"
	"adit/blake"
	"adit/curve"
	"adit/kdf"
	"adit/noise"
	"adit/wire"
	"adit/words"
)

// numbers are those that handshakes may have.
var numbers = []uint32{0, 1, 2, 255, 256, 0x01020304, 1 << 31, math.MaxUint32 - 1, math.MaxUint32}

// row is ordinary bytes, unlike for each n.
func row(n int) api.Key {
	var out api.Key
	for i := range out {
		out[i] = byte((n+3)*(i+5)*(i+n+11)/3 + n)
	}
	return out
}

// labelOf is a label, unlike for each n.
func labelOf(n int) [12]byte {
	k := row(n + 100)
	return [12]byte(k[:])
}

// full is bytes of 255.
func full() api.Key {
	var out api.Key
	for i := range out {
		out[i] = 255
	}
	return out
}

// secrets are secrets at their edges, and ordinary ones.
func secrets() []api.Key {
	return []api.Key{{}, full(), {7}, {8}, {31: 64}, {31: 128}, row(0), row(1), row(2)}
}

// unhex is digits' bytes.
func unhex(t *testing.T, s string) []byte {
	t.Helper()
	b, f := words.Unhex(s)
	if f != (api.Fault{}) {
		t.Fatalf("%q: %v", s, f)
	}
	return b
}

// unhexKey is digits' key.
func unhexKey(t *testing.T, s string) api.Key { return api.Key(unhex(t, s)) }

// lows are places of which each secret makes 0: 0, 1, the prime less 1 and what is as they are, and the places of eight.
func lows(t *testing.T) []api.Key {
	var out []api.Key
	for _, s := range []string{
		strings.Repeat("00", 32),
		"01" + strings.Repeat("00", 31),
		"ec" + strings.Repeat("ff", 30) + "7f",
		"ed" + strings.Repeat("ff", 30) + "7f",
		"ee" + strings.Repeat("ff", 30) + "7f",
		"e0eb7a7c3b41b8ae1656e3faf19fc46ada098deb9c32b1fd866205165f49b800",
		"5f9c95bca3508c24b1d0b1559c83ef5b04445cc4581c8e86d8224eddd09f1157",
	} {
		k := unhexKey(t, s)
		out = append(out, k)
		k[31] ^= 128
		out = append(out, k)
	}
	return out
}

// told is a handshake that another program made.
type told struct {
	self, other, shared, fresh, label, hash, chain, hello, reply, answer, send, receive string
}

// toldOnes are handshakes that another program made: the secrets of both, the key that both know, the fresh secrets of both; what came of them, its marks cut.
func toldOnes() []told {
	return []told{
		{
			self:    "20963954a12518324de7eb0ba566eb746969c9310cb54ac26aa436b724e83d65",
			other:   "78876ae0767eb1c3cce3aaa1f1088752e6bc7dfe22f8cb62e8e195fa28c6bc7f",
			shared:  "0000000000000000000000000000000000000000000000000000000000000000",
			fresh:   "287769e73ebbf73d068dcb26741c901c6144a86d410ae97c9fabd5b10e14df70",
			label:   "400000006aff76c00e000000",
			hash:    "16c33f8a0a38bdb6b9b1a53e564725d13e4ce376d9a3fa933734332d5595e9de",
			chain:   "bdb4af75f2e01fb11fb4a0bf4d5db32e5cf5282f51a1df00c40e7c99ff239264",
			hello:   "010000006d753e284c74403fc8ce6673def4e3ecaaf9f5874ab4b725dd287b9ddd1fdee1c95c842434a9fc76e0b2c9da6d99da5e4a29d7da520d8eac681aab02d20bd8a688f96bdf77e130a17a01157aff0d44be27cd9b58fc0f1804295e16ac4e9f02f8cc1b2640400ed6ff3b7c68507b9df849",
			reply:   "786ff19331555218c1faa1f278e9e952a53c8ae7248da60516b1cf8c6dedd259",
			answer:  "020000004e5690b86d753e28548fe435a550afb7c7b684d7407b78e48e8b2ed5fd3450d13ede3c4a8f07641d24d3742b53205d8b53bfdb9965da8baf",
			send:    "dbc3a50a03729e72be33f0ff67500ddd3045b4ca9110aebe112ebceb08e80c97",
			receive: "2cf5ca5359ef148c6957fe4c31b8f4407e07553de0c49d3a7842f5ea8734f319",
		},
		{
			self:    "2024664c83452916e71f0c355285a3e1642d62e3efa58346f9b2f0642a6bc146",
			other:   "885c5807b5c18846b0ef08252cc383dd9364a0d7093929e449e0d683aa4d467f",
			shared:  "28b37e617e8e3bf2433d7375fbc893b79f83cb6b81b1f2210e60a6465367b540",
			fresh:   "d08422dbb869002a44edf4c7e367e57f89d690bc7f7a993f2c15b0583fd25d54",
			label:   "400000006aff76c00f000000",
			hash:    "d2ac104ed9993a465527b79ccd765b9a3fa3ac01c7c9f787f81fc101af53ee9a",
			chain:   "7ca7606eae757dac4d75c9395d61a8f4159aa5cd7ef3bd8599cd8e6767ec1390",
			hello:   "01000000d4952b0b187cf35960506012549465a778b4fea71e1df67ade5cd487e7d39fd2a492c42a7ef820a7f768db33349c88f4caef668a567e84dbdf9c0fa73eb07107a2402c00e7a658f3299d26f563252a6ca3d38950d547f47589bbaae59d251cbaf28d1e4ff556e4cc592e05b51c505704",
			reply:   "308f18d6b699a97dc975ad6be7c2b311b51035129b235c77961b50591f749a51",
			answer:  "0200000013e11fe6d4952b0b22b1984e26ba369701a14f955d6d368511a761502dbb7672d59dfd9112cc7a763b227f7631a78f417d63fbe1e52359ed",
			send:    "342f592155d66d6ebe57ef8cebf4b7351767387c0ef0d9e7155742dc42dc44e1",
			receive: "64ab43d45991fd51f1ee99cf8be1fa9ae0db48bcf76ee88591223dc41471aa63",
		},
		{
			self:    "803921e651c2595fbbd45316b75e627b173df611ad72c0547f5decc922f1f36f",
			other:   "886a98e3491c96934cede1c6676d03983147d6e22f51206dc84afeb821bfbe45",
			shared:  "e8797fe60f94c0915660103a6dbfe787f991898610c1305fbc4eb1c3ebb4a849",
			fresh:   "98086a119821589d6f2ec8cdd5d8d29ccf0a5803242ec71eef9924eaeb24fd6e",
			label:   "400000006aff76c00f000000",
			hash:    "8ca97977a9fce20875509ac4de82a38235ed56cca698fec6564be5f264a99358",
			chain:   "5fe18640c3893bc2bb2090b1471cc1ca5ad933bebb8b2d935ab85b7aa5667540",
			hello:   "01000000c54ea6fa702d900ded067f47af7aa7b5950176db17c330ffaf7f9dfef549f013db125642a1df36f6f398609928e61de1f8defecb7ea930156cfa38924efa32397ed06651f039b2439c458e6b8a745da5d1be594ebbb0858c317ad73ed34b45b138c352de2e36e19403b488177994ad91",
			reply:   "38db0b53735a0c3da775b3fd114166d4df7037d38654d18dc76773e9fda0266e",
			answer:  "02000000498974bac54ea6fa1d59e4cef9bbd0a5092ba2b313e7f80f4a316bb6393a4ddb94e0ec1022388e7a51060266f76a527338e0c2c316e590e2",
			send:    "bf814607e0f864f0056e233ef92799b556a69ac378240df2a541c26d15217aba",
			receive: "09e69c22f01bb64e68883ae9345aad9eb3ad17e60308c6d428e18f907ea5e0d8",
		},
	}
}

// P18.1 to P18.6: handshakes that another program made, with every field of what is answered.
func TestTold(t *testing.T) {
	for i, c := range toldOnes() {
		self, other, shared := unhexKey(t, c.self), unhexKey(t, c.other), unhexKey(t, c.shared)
		fresh, reply, label := unhexKey(t, c.fresh), unhexKey(t, c.reply), [12]byte(unhex(t, c.label))
		hello, e := wire.ReadHello(append(unhex(t, c.hello), make([]byte, 32)...))
		if e != api.OK {
			t.Fatal(e)
		}
		answer, e := wire.ReadAnswer(append(unhex(t, c.answer), make([]byte, 32)...))
		if e != api.OK {
			t.Fatal(e)
		}
		hash, chain := unhexKey(t, c.hash), unhexKey(t, c.chain)
		s, m, e := noise.Begin(self, curve.Public(other), fresh, label, hello.Sender)
		if want := (noise.State{Hash: hash, Chain: chain, Secret: fresh, Other: curve.Public(other), Local: hello.Sender}); s != want || m != hello || e != api.OK {
			t.Errorf("%d: Begin: %v %x %x", i, e, s, m)
		}
		u, l, e := noise.Hear(other, hello)
		if want := (noise.State{Hash: hash, Chain: chain, Other: curve.Public(self), OtherEphemeral: curve.Public(fresh), Remote: hello.Sender}); u != want || l != label || e != api.OK {
			t.Errorf("%d: Hear: %v %x %x", i, e, u, l)
		}
		first, second := unhexKey(t, c.send), unhexKey(t, c.receive)
		k, n, e := noise.Reply(u, shared, reply, answer.Sender)
		if want := (noise.Keys{Send: second, Receive: first, Local: answer.Sender, Remote: hello.Sender}); k != want || n != answer || e != api.OK {
			t.Errorf("%d: Reply: %v %v %v", i, e, k, n)
		}
		k, e = noise.Finish(s, self, shared, answer)
		if want := (noise.Keys{Send: first, Receive: second, Local: hello.Sender, Remote: answer.Sender, First: true}); k != want || e != api.OK {
			t.Errorf("%d: Finish: %v %v", i, e, k)
		}
	}
}

// box is the box of a text with a key and a hash, and the hash behind it.
func box(key, hash [32]byte, text []byte) ([]byte, [32]byte) {
	out, _ := aead.Seal(key, [12]byte{}, text, hash[:])
	return out, kdf.Join(hash, out)
}

// wantedHello is the Hello of one whose public bytes are told, and its hash and chain, as the chapter's words have it. What two make may be 0 here.
func wantedHello(self, public, other, fresh api.Key, label [12]byte, local uint32) (wire.HelloMsg, [32]byte, [32]byte) {
	m := wire.HelloMsg{Sender: local, Ephemeral: curve.Public(fresh)}
	chain := blake.Sum32([]byte("Noise_IKpsk2_25519_ChaChaPoly_BLAKE2s"))
	hash := kdf.Join(chain, []byte("WireGuard v1 zx2c4 Jason@zx2c4.com"))
	hash = kdf.Join(hash, other[:])
	chain = kdf.Chain1(chain, m.Ephemeral[:])
	hash = kdf.Join(hash, m.Ephemeral[:])
	both := curve.Mul(fresh, other)
	chain, key := kdf.Chain2(chain, both[:])
	b, hash := box(key, hash, public[:])
	copy(m.Static[:], b)
	both = curve.Mul(self, other)
	if curve.Public(self) != public {
		// What the other side makes of public bytes that are no secret's: 0 of those that are asked for here.
		both = [32]byte{}
	}
	chain, key = kdf.Chain2(chain, both[:])
	b, hash = box(key, hash, label[:])
	copy(m.Stamp[:], b)
	return m, hash, chain
}

// wantedAnswer is the Answer to a Hello, and both keys, as the chapter's words have it. What two make may be 0 here.
func wantedAnswer(hash, chain [32]byte, ephemeral, static, fresh, shared api.Key, local, remote uint32) (wire.AnswerMsg, api.Key, api.Key) {
	m := wire.AnswerMsg{Sender: local, Receiver: remote, Ephemeral: curve.Public(fresh)}
	chain = kdf.Chain1(chain, m.Ephemeral[:])
	hash = kdf.Join(hash, m.Ephemeral[:])
	both := curve.Mul(fresh, ephemeral)
	chain = kdf.Chain1(chain, both[:])
	both = curve.Mul(fresh, static)
	chain = kdf.Chain1(chain, both[:])
	chain, told, key := kdf.Chain3(chain, shared[:])
	b, _ := box(key, kdf.Join(hash, told[:]), nil)
	copy(m.Empty[:], b)
	first, second := kdf.Chain2(chain, nil)
	return m, first, second
}

// P18.1: the Hello and the state, of secrets, labels and numbers at their edges.
func TestBegin(t *testing.T) {
	for i, self := range secrets() {
		for j, place := range secrets() {
			other, fresh, label, local := curve.Public(place), row(i*20+j), labelOf(i+j), numbers[(i+j)%len(numbers)]
			s, m, e := noise.Begin(self, other, fresh, label, local)
			want, hash, chain := wantedHello(self, curve.Public(self), other, fresh, label, local)
			wantS := noise.State{Hash: hash, Chain: chain, Secret: fresh, Other: other, Local: local}
			if e != api.OK || m != want || s != wantS {
				t.Errorf("%d %d: %v %x %x", i, j, e, s, m)
			}
		}
	}
	for _, fresh := range secrets() {
		for _, label := range [][12]byte{{}, {1}, {11: 255}, labelOf(1)} {
			s, m, e := noise.Begin(row(1), curve.Public(row(2)), fresh, label, 9)
			want, _, _ := wantedHello(row(1), curve.Public(row(1)), curve.Public(row(2)), fresh, label, 9)
			if e != api.OK || m != want || s.Secret != fresh {
				t.Errorf("%x %x: %v %x", fresh, label, e, m)
			}
		}
	}
}

// P18.1: a Shared that is zero; nothing else is told.
func TestBeginZero(t *testing.T) {
	for _, other := range lows(t) {
		for _, secret := range secrets() {
			s, m, e := noise.Begin(secret, other, row(3), labelOf(1), 7)
			if e != api.ErrZero || s != (noise.State{}) || m != (wire.HelloMsg{}) {
				t.Errorf("%x: %v %x %x", other, e, s, m)
			}
			if _, _, e = noise.Begin(row(3), other, secret, labelOf(1), 7); e != api.ErrZero {
				t.Errorf("%x: %v", other, e)
			}
		}
	}
}

// P18.1: the other's public bytes count as they are told, though the curve takes others for the same: such a Hello is for nobody.
func TestBeginAsTold(t *testing.T) {
	other := curve.Public(row(2))
	other[31] |= 128
	s, m, e := noise.Begin(row(1), other, row(3), labelOf(1), 7)
	want, hash, chain := wantedHello(row(1), curve.Public(row(1)), other, row(3), labelOf(1), 7)
	if e != api.OK || m != want || s.Other != other || s.Hash != hash || s.Chain != chain {
		t.Errorf("Begin: %v %x %x", e, s, m)
	}
	refused(t, row(2), m, api.ErrTag)
}

// refused holds that a Hello is not heard.
func refused(t *testing.T, self api.Key, m wire.HelloMsg, want api.Errno) {
	t.Helper()
	if s, label, e := noise.Hear(self, m); e != want || s != (noise.State{}) || label != [12]byte{} {
		t.Errorf("Hear: %v, want %v; %x %x", e, want, s, label)
	}
}

// P18.2, P18.6: who began, the label and the state, of secrets, labels and numbers at their edges.
func TestHear(t *testing.T) {
	for i, self := range secrets() {
		for j, other := range secrets() {
			fresh, label, local := row(i*20+j), labelOf(i+j), numbers[(i+j)%len(numbers)]
			m, hash, chain := wantedHello(self, curve.Public(self), curve.Public(other), fresh, label, local)
			s, got, e := noise.Hear(other, m)
			want := noise.State{Hash: hash, Chain: chain, Other: curve.Public(self), OtherEphemeral: curve.Public(fresh), Remote: local}
			if e != api.OK || got != label || s != want {
				t.Errorf("%d %d: %v %x %x", i, j, e, s, got)
			}
		}
	}
}

// P18.2: the marks do not count, and the number is of no box.
func TestHearWhatDoesNotCount(t *testing.T) {
	_, m, _ := noise.Begin(row(1), curve.Public(row(2)), row(3), labelOf(1), 7)
	want, _, _ := noise.Hear(row(2), m)
	m.Mac1, m.Mac2 = [16]byte{1, 2, 3}, [16]byte{15: 255}
	if s, label, e := noise.Hear(row(2), m); e != api.OK || s != want || label != labelOf(1) {
		t.Errorf("with marks: %v %x", e, s)
	}
	m.Sender, want.Remote = 8, 8
	if s, _, e := noise.Hear(row(2), m); e != api.OK || s != want {
		t.Errorf("with another number: %v %x", e, s)
	}
}

// P18.2: a Hello of which a byte of a box, or of the fresh public bytes, is turned does not open.
func TestHearTurned(t *testing.T) {
	_, m, _ := noise.Begin(row(1), curve.Public(row(2)), row(3), labelOf(1), 7)
	for i := range m.Static {
		turned := m
		turned.Static[i] ^= 1 << (i % 8)
		refused(t, row(2), turned, api.ErrTag)
	}
	for i := range m.Stamp {
		turned := m
		turned.Stamp[i] ^= 1 << (i % 8)
		refused(t, row(2), turned, api.ErrTag)
	}
	for i := range m.Ephemeral {
		turned := m
		turned.Ephemeral[i] ^= 128
		refused(t, row(2), turned, api.ErrTag)
	}
	both := m
	both.Static[0], both.Stamp[0] = both.Static[0]^1, both.Stamp[0]^1
	refused(t, row(2), both, api.ErrTag)
}

// P18.2: a Hello for somebody else, or put together of two.
func TestHearOfOthers(t *testing.T) {
	_, m, _ := noise.Begin(row(1), curve.Public(row(2)), row(3), labelOf(1), 7)
	for i, self := range secrets() {
		if curve.Public(self) != curve.Public(row(2)) {
			refused(t, self, m, api.ErrTag)
		} else if _, _, e := noise.Hear(self, m); e != api.OK {
			t.Errorf("%d: %v", i, e)
		}
	}
	for _, other := range []struct{ self, fresh api.Key }{{row(1), row(4)}, {row(5), row(3)}} {
		_, n, _ := noise.Begin(other.self, curve.Public(row(2)), other.fresh, labelOf(1), 7)
		mixed := m
		mixed.Static = n.Static
		refused(t, row(2), mixed, api.ErrTag)
		mixed = m
		mixed.Stamp = n.Stamp
		refused(t, row(2), mixed, api.ErrTag)
	}
	_, n, _ := noise.Begin(row(1), curve.Public(row(2)), row(3), labelOf(2), 7)
	if _, label, e := noise.Hear(row(2), n); e != api.OK || label != labelOf(2) {
		t.Errorf("another label: %v %x", e, label)
	}
	refused(t, row(2), wire.HelloMsg{}, api.ErrZero)
	refused(t, row(2), wire.HelloMsg{Ephemeral: curve.Public(row(3))}, api.ErrTag)
}

// P18.2: a Shared that is zero, of the fresh public bytes: told ahead of boxes that do not open.
func TestHearZeroFresh(t *testing.T) {
	_, m, _ := noise.Begin(row(1), curve.Public(row(2)), row(3), labelOf(1), 7)
	for _, low := range lows(t) {
		turned := m
		turned.Ephemeral = low
		refused(t, row(2), turned, api.ErrZero)
		turned.Static[47] ^= 1
		turned.Stamp[27] ^= 1
		refused(t, row(2), turned, api.ErrZero)
	}
}

// P18.2: a Shared that is zero, of the one who began: told ahead of a Stamp that does not open, behind a Static that does not.
func TestHearZeroStatic(t *testing.T) {
	for _, low := range lows(t) {
		m, _, _ := wantedHello(row(1), low, curve.Public(row(2)), row(3), labelOf(1), 7)
		refused(t, row(2), m, api.ErrZero)
		stamp := m
		stamp.Stamp[27] ^= 1
		refused(t, row(2), stamp, api.ErrZero)
		static := m
		static.Static[47] ^= 1
		refused(t, row(2), static, api.ErrTag)
	}
}

// P18.3: the Answer and the keys, of secrets, keys and numbers at their edges.
func TestReply(t *testing.T) {
	for i, fresh := range secrets() {
		for j, shared := range secrets() {
			local, remote := numbers[i%len(numbers)], numbers[(i+j+1)%len(numbers)]
			s := noise.State{Hash: row(i + 30), Chain: row(j + 50), Other: curve.Public(row(5)), OtherEphemeral: curve.Public(row(6)), Remote: remote}
			k, m, e := noise.Reply(s, shared, fresh, local)
			want, first, second := wantedAnswer(s.Hash, s.Chain, s.OtherEphemeral, s.Other, fresh, shared, local, remote)
			wantK := noise.Keys{Send: second, Receive: first, Local: local, Remote: remote}
			if e != api.OK || m != want || k != wantK {
				t.Errorf("%d %d: %v %v %v", i, j, e, k, m)
			}
		}
	}
}

// P18.3: a Shared that is zero, of the fresh public bytes, or of the one who began, or of both.
func TestReplyZero(t *testing.T) {
	right := noise.State{Hash: row(1), Chain: row(2), Other: curve.Public(row(5)), OtherEphemeral: curve.Public(row(6)), Remote: 3}
	zero := func(s noise.State, fresh api.Key) {
		t.Helper()
		if k, m, e := noise.Reply(s, row(7), fresh, 4); e != api.ErrZero || k != (noise.Keys{}) || m != (wire.AnswerMsg{}) {
			t.Errorf("Reply: %v %v %v", e, k, m)
		}
	}
	for i, low := range lows(t) {
		fresh := secrets()[i%len(secrets())]
		s := right
		s.OtherEphemeral = low
		zero(s, fresh)
		s.Other = low
		zero(s, fresh)
		s.OtherEphemeral = right.OtherEphemeral
		zero(s, fresh)
	}
	// The state of one who began knows no fresh public bytes of the other one.
	s, _, _ := noise.Begin(row(1), curve.Public(row(2)), row(3), labelOf(1), 7)
	zero(s, row(4))
	zero(noise.State{}, row(4))
}

// unfinished holds that an Answer is not heard.
func unfinished(t *testing.T, s noise.State, self, shared api.Key, m wire.AnswerMsg, want api.Errno) {
	t.Helper()
	if k, e := noise.Finish(s, self, shared, m); e != want || k != (noise.Keys{}) {
		t.Errorf("Finish: %v, want %v; %v", e, want, k)
	}
}

// begun is the state of one who began with the number 7, and the Answer of the number 9.
func begun(t *testing.T) (noise.State, wire.AnswerMsg) {
	t.Helper()
	s, m, e := noise.Begin(row(1), curve.Public(row(2)), row(3), labelOf(1), 7)
	u, _, f := noise.Hear(row(2), m)
	_, n, g := noise.Reply(u, row(5), row(4), 9)
	if e != api.OK || f != api.OK || g != api.OK {
		t.Fatal(e, f, g)
	}
	return s, n
}

// P18.4: the keys, of secrets, keys and numbers at their edges.
func TestFinish(t *testing.T) {
	for i, self := range secrets() {
		for j, secret := range secrets() {
			shared, local, remote := row(i+j), numbers[i%len(numbers)], numbers[(i+j+1)%len(numbers)]
			s := noise.State{Hash: row(i + 30), Chain: row(j + 50), Secret: secret, Other: curve.Public(row(5)), Local: local}
			m, first, second := wantedAnswer(s.Hash, s.Chain, curve.Public(secret), curve.Public(self), row(i*j), shared, remote, local)
			k, e := noise.Finish(s, self, shared, m)
			if want := (noise.Keys{Send: first, Receive: second, Local: local, Remote: remote, First: true}); e != api.OK || k != want {
				t.Errorf("%d %d: %v %v", i, j, e, k)
			}
		}
	}
}

// P18.4: an Answer to another number: told ahead of all else.
func TestFinishIndex(t *testing.T) {
	s, m := begun(t)
	for _, n := range append(numbers, 6, 8, 9, 7<<8, 7<<24, 7|1<<31) {
		other := m
		other.Receiver = n
		unfinished(t, s, row(1), row(5), other, api.ErrIndex)
		other.Empty[0] ^= 1
		unfinished(t, s, row(1), row(5), other, api.ErrIndex)
		other.Ephemeral = api.Key{}
		unfinished(t, s, row(1), row(5), other, api.ErrIndex)
	}
	// Not the one who answers is asked for, but the one who is answered.
	s.Local, s.Remote = 9, 7
	unfinished(t, s, row(1), row(5), m, api.ErrIndex)
}

// P18.4: a Shared that is zero: told ahead of a box that does not open.
func TestFinishZero(t *testing.T) {
	s, m := begun(t)
	for i, low := range lows(t) {
		m.Ephemeral = low
		unfinished(t, s, row(1), row(5), m, api.ErrZero)
		// A box that would open, if what they make might be 0.
		chain, hash := kdf.Chain1(s.Chain, low[:]), kdf.Join(s.Hash, low[:])
		chain = kdf.Chain1(kdf.Chain1(chain, make([]byte, 32)), make([]byte, 32))
		shared := row(i)
		_, told, key := kdf.Chain3(chain, shared[:])
		b, _ := box(key, kdf.Join(hash, told[:]), nil)
		forged := m
		copy(forged.Empty[:], b)
		unfinished(t, s, row(1), shared, forged, api.ErrZero)
	}
}

// P18.4: an Answer of which a byte is turned, with another key that both know, another secret, or to another Hello.
func TestFinishTag(t *testing.T) {
	s, m := begun(t)
	for i := range m.Empty {
		turned := m
		turned.Empty[i] ^= 1 << (i % 8)
		unfinished(t, s, row(1), row(5), turned, api.ErrTag)
	}
	for i := range m.Ephemeral {
		turned := m
		turned.Ephemeral[i] ^= 128
		unfinished(t, s, row(1), row(5), turned, api.ErrTag)
	}
	for i := range 32 {
		shared := row(5)
		shared[i] ^= 1 << (i % 8)
		unfinished(t, s, row(1), shared, m, api.ErrTag)
	}
	unfinished(t, s, row(1), api.Key{}, m, api.ErrTag)
	unfinished(t, s, row(2), row(5), m, api.ErrTag)
	for _, alter := range []func(s *noise.State){
		func(s *noise.State) { s.Hash[0] ^= 1 },
		func(s *noise.State) { s.Chain[31] ^= 1 },
		func(s *noise.State) { s.Secret = row(8) },
	} {
		other := s
		alter(&other)
		unfinished(t, other, row(1), row(5), m, api.ErrTag)
	}
	again, _, _ := noise.Begin(row(1), curve.Public(row(2)), row(3), labelOf(2), 7)
	unfinished(t, again, row(1), row(5), m, api.ErrTag)
	unfinished(t, noise.State{}, row(1), row(5), wire.AnswerMsg{}, api.ErrZero)
	unfinished(t, noise.State{}, row(1), row(5), wire.AnswerMsg{Ephemeral: curve.Public(row(4))}, api.ErrTag)
}

// P18.4: the marks do not count, and the number of the one who answers is of no box.
func TestFinishWhatDoesNotCount(t *testing.T) {
	s, m := begun(t)
	want, e := noise.Finish(s, row(1), row(5), m)
	if e != api.OK || want.Local != 7 || want.Remote != 9 || !want.First {
		t.Fatalf("Finish: %v %v", e, want)
	}
	m.Mac1, m.Mac2 = [16]byte{1, 2, 3}, [16]byte{15: 255}
	if k, e := noise.Finish(s, row(1), row(5), m); e != api.OK || k != want {
		t.Errorf("with marks: %v %v", e, k)
	}
	for _, n := range numbers {
		m.Sender, want.Remote = n, n
		if k, e := noise.Finish(s, row(1), row(5), m); e != api.OK || k != want {
			t.Errorf("with the number %d: %v %v", n, e, k)
		}
	}
}

// someKey is a key by chance.
func someKey(r *rand.Rand) api.Key {
	var out api.Key
	for i := range out {
		out[i] = byte(r.Uint32())
	}
	return out
}

// someLabel is a label by chance.
func someLabel(r *rand.Rand) [12]byte {
	k := someKey(r)
	return [12]byte(k[:])
}

// P18.5, P18.6 (and P3): whoever begins, and hears back what the other one answers, has the same keys, exchanged; the other one learns who began.
func TestBothAgree(t *testing.T) {
	r := rand.New(rand.NewPCG(18, 1))
	seen := map[api.Key]int{}
	for i := range 60 {
		self, other, shared := someKey(r), someKey(r), someKey(r)
		switch i % 6 {
		case 0:
			shared = api.Key{}
		case 1:
			// One that says Hello to itself.
			other = self
		}
		label := someLabel(r)
		local, remote := r.Uint32(), r.Uint32()
		s, m, e := noise.Begin(self, curve.Public(other), someKey(r), label, local)
		u, heard, f := noise.Hear(other, m)
		k, n, g := noise.Reply(u, shared, someKey(r), remote)
		l, h := noise.Finish(s, self, shared, n)
		if e != api.OK || f != api.OK || g != api.OK || h != api.OK {
			t.Fatal(e, f, g, h)
		}
		if u.Other != curve.Public(self) || heard != label || u.OtherEphemeral != m.Ephemeral || u.Hash != s.Hash || u.Chain != s.Chain {
			t.Errorf("Hear: %x %x of %x", u, heard, s)
		}
		want := noise.Keys{Send: k.Receive, Receive: k.Send, Local: k.Remote, Remote: k.Local, First: true}
		if l != want || k.First || l.Local != local || l.Remote != remote {
			t.Errorf("%v and %v", k, l)
		}
		seen[k.Send]++
		seen[k.Receive]++
	}
	// No two handshakes, and no two ways of one, have the same key.
	if len(seen) != 120 {
		t.Errorf("%d keys of 60 handshakes", len(seen))
	}
}

// P18.5: each thing that a handshake is made of counts: with another one the keys are others.
func TestKeysOfWhat(t *testing.T) {
	keys := func(self, other, fresh, reply, shared api.Key, label [12]byte) noise.Keys {
		t.Helper()
		s, m, e := noise.Begin(self, curve.Public(other), fresh, label, 1)
		u, _, f := noise.Hear(other, m)
		_, n, g := noise.Reply(u, shared, reply, 2)
		k, h := noise.Finish(s, self, shared, n)
		if e != api.OK || f != api.OK || g != api.OK || h != api.OK {
			t.Fatal(e, f, g, h)
		}
		return k
	}
	one := keys(row(1), row(2), row(3), row(4), row(5), labelOf(1))
	if again := keys(row(1), row(2), row(3), row(4), row(5), labelOf(1)); again != one {
		t.Errorf("the same twice: %v and %v", one, again)
	}
	for i, k := range []noise.Keys{
		keys(row(9), row(2), row(3), row(4), row(5), labelOf(1)),
		keys(row(1), row(9), row(3), row(4), row(5), labelOf(1)),
		keys(row(1), row(2), row(9), row(4), row(5), labelOf(1)),
		keys(row(1), row(2), row(3), row(9), row(5), labelOf(1)),
		keys(row(1), row(2), row(3), row(4), row(9), labelOf(1)),
	} {
		if k.Send == one.Send || k.Receive == one.Receive {
			t.Errorf("%d: %v and %v", i, one, k)
		}
	}
	// A label goes into the hash alone: it tells who may be heard, not the keys.
	if k := keys(row(1), row(2), row(3), row(4), row(5), labelOf(2)); k != one {
		t.Errorf("another label: %v and %v", one, k)
	}
}

// P18.5: a message goes through the tunnel's bytes as it is.
func TestThroughWire(t *testing.T) {
	s, m, _ := noise.Begin(row(1), curve.Public(row(2)), row(3), labelOf(1), 0x01020304)
	m, e := wire.ReadHello(wire.WriteHello(m))
	if e != api.OK {
		t.Fatal(e)
	}
	u, _, e := noise.Hear(row(2), m)
	if e != api.OK {
		t.Fatal(e)
	}
	k, n, _ := noise.Reply(u, row(5), row(4), 0x05060708)
	n, e = wire.ReadAnswer(wire.WriteAnswer(n))
	if e != api.OK {
		t.Fatal(e)
	}
	l, e := noise.Finish(s, row(1), row(5), n)
	if e != api.OK || l.Send != k.Receive || l.Receive != k.Send {
		t.Errorf("%v %v %v", e, k, l)
	}
	// What one seals the other one opens.
	sealed, _ := aead.Seal(l.Send, aead.Counter(0), []byte("text"), nil)
	if text, e := aead.Open(k.Receive, aead.Counter(0), sealed, nil); e != api.OK || !bytes.Equal(text, []byte("text")) {
		t.Errorf("%v %q", e, text)
	}
}

// P18.1 to P18.4, P1: states and messages that no call made are told apart by the same errors, and none makes a call panic.
func TestMadeByHand(t *testing.T) {
	r := rand.New(rand.NewPCG(18, 2))
	for range 60 {
		s := noise.State{Hash: someKey(r), Chain: someKey(r), Secret: someKey(r), Other: someKey(r), OtherEphemeral: someKey(r), Local: 1, Remote: r.Uint32()}
		var hello wire.HelloMsg
		hello.Ephemeral = someKey(r)
		some := someKey(r)
		copy(hello.Static[:], some[:])
		refused(t, someKey(r), hello, api.ErrTag)
		unfinished(t, s, someKey(r), someKey(r), wire.AnswerMsg{Receiver: 1, Ephemeral: someKey(r)}, api.ErrTag)
		fresh, shared := someKey(r), someKey(r)
		k, m, e := noise.Reply(s, shared, fresh, 4)
		want, first, second := wantedAnswer(s.Hash, s.Chain, s.OtherEphemeral, s.Other, fresh, shared, 4, s.Remote)
		if e != api.OK || m != want || k != (noise.Keys{Send: second, Receive: first, Local: 4, Remote: s.Remote}) {
			t.Errorf("Reply: %v %v %v", e, k, m)
		}
	}
}
