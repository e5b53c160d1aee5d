package wire_test

import (
	"bytes"
	"encoding/binary"
	"math"
	"math/rand/v2"
	"reflect"
	"slices"
	"testing"

	"adit/api"
	"adit/wire"
)

// kinds are the kinds of which there may be messages.
var kinds = []int{wire.Hello, wire.Answer, wire.Cookie, wire.Data}

// numbers are those that a field of four bytes may be, about each byte's edge.
var numbers = []uint32{0, 1, 2, 127, 128, 255, 256, 258, 0x01020304, 0x80000000, 0xff00ff00, math.MaxUint32 - 1, math.MaxUint32}

// rightSize tells whether a message of a kind may have so many bytes, as the chapter counts them.
func rightSize(kind, size int) bool {
	switch kind {
	case 1:
		return size == 148
	case 2:
		return size == 92
	case 3:
		return size == 64
	case 4:
		return size >= 32 && size <= 16+1532 && size%16 == 0
	}
	return false
}

// row is so many bytes, each unlike its neighbours.
func row(n int) []byte {
	out := make([]byte, n)
	for i := range out {
		out[i] = byte(i*7 + 1)
	}
	return out
}

// message is so many bytes that begin as one of a kind does.
func message(kind, size int) []byte {
	b := row(size)
	copy(b, []byte{byte(kind), 0, 0, 0})
	return b
}

// messages are bytes of each kind, the shortest and the longest of Data and some between.
func messages() [][]byte {
	out := [][]byte{message(1, 148), message(2, 92), message(3, 64)}
	for size := 32; size <= 1536; size += 16 {
		out = append(out, message(4, size))
	}
	return out
}

// filled is an array's bytes, from a first one on.
func filled[T [16]byte | [24]byte | [28]byte | [32]byte | [48]byte | api.Key](first int) T {
	var out T
	for i := range len(out) {
		out[i] = byte(first + i)
	}
	return out
}

// little is a number's bytes, the least first.
func little(v uint32) []byte { return binary.LittleEndian.AppendUint32(nil, v) }

// run is bytes that each are greater by one than the one ahead.
func run(first, n int) []byte {
	out := make([]byte, n)
	for i := range out {
		out[i] = byte(first + i)
	}
	return out
}

// hello is a Hello of unlike fields.
func hello(sender uint32) wire.HelloMsg {
	return wire.HelloMsg{Sender: sender, Ephemeral: filled[api.Key](1), Static: filled[[48]byte](41), Stamp: filled[[28]byte](91), Mac1: filled[[16]byte](121), Mac2: filled[[16]byte](141)}
}

// answer is an Answer of unlike fields.
func answer(sender, receiver uint32) wire.AnswerMsg {
	return wire.AnswerMsg{Sender: sender, Receiver: receiver, Ephemeral: filled[api.Key](1), Empty: filled[[16]byte](41), Mac1: filled[[16]byte](121), Mac2: filled[[16]byte](141)}
}

// cookie is a Cookie of unlike fields.
func cookie(receiver uint32) wire.CookieMsg {
	return wire.CookieMsg{Receiver: receiver, Nonce: filled[[24]byte](1), Box: filled[[32]byte](41)}
}

// read reads bytes as a message of a kind.
func read(kind int, b []byte) (any, api.Errno) {
	switch kind {
	case wire.Hello:
		return pack(wire.ReadHello(b))
	case wire.Answer:
		return pack(wire.ReadAnswer(b))
	case wire.Cookie:
		return pack(wire.ReadCookie(b))
	}
	return pack(wire.ReadData(b))
}

// pack forgets which kind a message is of.
func pack[T any](m T, e api.Errno) (any, api.Errno) { return m, e }

// write is a message's bytes.
func write(t *testing.T, m any) []byte {
	t.Helper()
	switch m := m.(type) {
	case wire.HelloMsg:
		return wire.WriteHello(m)
	case wire.AnswerMsg:
		return wire.WriteAnswer(m)
	case wire.CookieMsg:
		return wire.WriteCookie(m)
	}
	b, e := wire.WriteData(m.(wire.DataMsg))
	if e != api.OK {
		t.Fatalf("WriteData(%v): %v", m, e)
	}
	return b
}

// isZero tells whether a message is of noughts, and has no Box.
func isZero(m any) bool {
	if d, ok := m.(wire.DataMsg); ok {
		return d.Receiver == 0 && d.Counter == 0 && len(d.Box) == 0
	}
	return reflect.ValueOf(m).IsZero()
}

// wantKind holds of which kind bytes are, and that they are read as that alone.
func wantKind(t *testing.T, b []byte, kind int) {
	t.Helper()
	if k, e := wire.Kind(b); k != kind || e != api.OK {
		t.Errorf("Kind of %d bytes % x: %d %v, want %d", len(b), b[:4], k, e, kind)
	}
	for _, other := range kinds {
		m, e := read(other, b)
		if other == kind && e != api.OK || other != kind && (e != api.ErrKind || !isZero(m)) {
			t.Errorf("%d bytes % x read as %d: %v %v", len(b), b[:4], other, m, e)
		}
	}
}

// wantError holds that bytes are of no kind, and are read as none.
func wantError(t *testing.T, b []byte, want api.Errno) {
	t.Helper()
	if k, e := wire.Kind(b); k != 0 || e != want {
		t.Errorf("Kind of %d bytes % x: %d %v, want %v", len(b), b[:min(4, len(b))], k, e, want)
	}
	for _, kind := range kinds {
		if m, e := read(kind, b); e != want || !isZero(m) {
			t.Errorf("%d bytes % x read as %d: %v %v, want %v", len(b), b[:min(4, len(b))], kind, m, e, want)
		}
	}
}

// The kinds have their numbers.
func TestKinds(t *testing.T) {
	if !slices.Equal(kinds, []int{1, 2, 3, 4}) {
		t.Errorf("%v", kinds)
	}
}

// P13.1, P13.3: the kind of messages of each length, and who reads them.
func TestKindOfEachLength(t *testing.T) {
	for kind := 1; kind <= 4; kind++ {
		for size := 4; size <= 1700; size++ {
			if rightSize(kind, size) {
				wantKind(t, message(kind, size), kind)
			} else {
				wantError(t, message(kind, size), api.ErrForm)
			}
		}
		for _, size := range []int{2048, 4096, 65536, 65536 + 64, 65536 + 92, 65536 + 148, 1 << 20} {
			wantError(t, message(kind, size), api.ErrForm)
		}
	}
}

// P13.1: a Data's Box has from 16 to 1520 bytes, since 1532 is no multiple of 16.
func TestKindOfDatasEdges(t *testing.T) {
	wantKind(t, message(4, 32), 4)
	wantKind(t, message(4, 48), 4)
	wantKind(t, message(4, 1520), 4)
	wantKind(t, message(4, 1536), 4)
	for _, size := range []int{4, 15, 16, 17, 31, 33, 40, 47, 49, 1519, 1521, 1532, 1535, 1537, 1548, 1552} {
		wantError(t, message(4, size), api.ErrForm)
	}
}

// P13.1: fewer than four bytes are told first, whatever they are.
func TestKindOfShort(t *testing.T) {
	wantError(t, nil, api.ErrShort)
	for first := range 256 {
		for n := range 4 {
			b := bytes.Repeat([]byte{byte(first)}, n)
			wantError(t, b, api.ErrShort)
			wantError(t, message(first, 4)[:n], api.ErrShort)
		}
	}
}

// P13.1: bytes of no kind, told ahead of their length.
func TestKindOfNone(t *testing.T) {
	for first := range 256 {
		for _, size := range []int{4, 5, 32, 63, 64, 92, 148, 1536, 1600} {
			if b := message(first, size); first < 1 || first > 4 {
				wantError(t, b, api.ErrKind)
			}
			for at := 1; at < 4; at++ {
				for _, v := range []byte{1, 2, 4, 127, 128, 255} {
					b := message(first, size)
					b[at] = v
					wantError(t, b, api.ErrKind)
				}
			}
		}
	}
	for _, size := range []int{4, 64, 92, 148} {
		wantError(t, make([]byte, size), api.ErrKind)
		// The greatest byte first would be another number.
		for kind := byte(1); kind <= 4; kind++ {
			wantError(t, append([]byte{0, 0, 0, kind}, make([]byte, size-4)...), api.ErrKind)
		}
	}
}

// P13.2, P13.3: a Hello's bytes, and the chapter's example.
func TestHello(t *testing.T) {
	b := wire.WriteHello(wire.HelloMsg{})
	if want := append([]byte{1, 0, 0, 0}, make([]byte, 144)...); !bytes.Equal(b, want) {
		t.Errorf("of noughts: % x", b)
	}
	for _, n := range numbers {
		want := slices.Concat([]byte{1, 0, 0, 0}, little(n), run(1, 32), run(41, 48), run(91, 28), run(121, 16), run(141, 16))
		if b := wire.WriteHello(hello(n)); !bytes.Equal(b, want) || len(b) != 148 {
			t.Errorf("WriteHello: % x, want % x", b, want)
		}
		if m, e := wire.ReadHello(want); m != hello(n) || e != api.OK {
			t.Errorf("ReadHello: %v %v, want %v", m, e, hello(n))
		}
	}
}

// P13.2, P13.3: an Answer's bytes.
func TestAnswer(t *testing.T) {
	b := wire.WriteAnswer(wire.AnswerMsg{})
	if want := append([]byte{2, 0, 0, 0}, make([]byte, 88)...); !bytes.Equal(b, want) {
		t.Errorf("of noughts: % x", b)
	}
	for _, n := range numbers {
		for _, o := range numbers {
			want := slices.Concat([]byte{2, 0, 0, 0}, little(n), little(o), run(1, 32), run(41, 16), run(121, 16), run(141, 16))
			if b := wire.WriteAnswer(answer(n, o)); !bytes.Equal(b, want) || len(b) != 92 {
				t.Errorf("WriteAnswer: % x, want % x", b, want)
			}
			if m, e := wire.ReadAnswer(want); m != answer(n, o) || e != api.OK {
				t.Errorf("ReadAnswer: %v %v, want %v", m, e, answer(n, o))
			}
		}
	}
}

// P13.2, P13.3: a Cookie's bytes.
func TestCookie(t *testing.T) {
	b := wire.WriteCookie(wire.CookieMsg{})
	if want := append([]byte{3, 0, 0, 0}, make([]byte, 60)...); !bytes.Equal(b, want) {
		t.Errorf("of noughts: % x", b)
	}
	for _, n := range numbers {
		want := slices.Concat([]byte{3, 0, 0, 0}, little(n), run(1, 24), run(41, 32))
		if b := wire.WriteCookie(cookie(n)); !bytes.Equal(b, want) || len(b) != 64 {
			t.Errorf("WriteCookie: % x, want % x", b, want)
		}
		if m, e := wire.ReadCookie(want); m != cookie(n) || e != api.OK {
			t.Errorf("ReadCookie: %v %v, want %v", m, e, cookie(n))
		}
	}
}

// P13.2, P13.3: a Data's bytes, of each Box and each Counter's edge.
func TestData(t *testing.T) {
	counters := []uint64{0, 1, 255, 256, 1 << 32, 0x0102030405060708, api.RekeyMessages, api.RejectMessages, 1 << 63, math.MaxUint64}
	for size := 16; size <= 1520; size += 16 {
		for i, n := range counters {
			m := wire.DataMsg{Receiver: numbers[i], Counter: n, Box: row(size)}
			want := slices.Concat([]byte{4, 0, 0, 0}, little(numbers[i]), binary.LittleEndian.AppendUint64(nil, n), row(size))
			if b, e := wire.WriteData(m); !bytes.Equal(b, want) || e != api.OK {
				t.Errorf("WriteData(%v): % x %v", m, b, e)
			}
			if got, e := wire.ReadData(want); !reflect.DeepEqual(got, m) || e != api.OK {
				t.Errorf("ReadData: %v %v, want %v", got, e, m)
			}
		}
	}
}

// P13.2: a Data whose Box may not be.
func TestDataOfWrongBox(t *testing.T) {
	for size := range 1700 {
		b, e := wire.WriteData(wire.DataMsg{Receiver: 1, Counter: 2, Box: row(size)})
		right := size >= 16 && size <= 1532 && size%16 == 0
		if right && (e != api.OK || len(b) != 16+size) || !right && (e != api.ErrForm || len(b) != 0) {
			t.Errorf("a Box of %d bytes: %d bytes, %v", size, len(b), e)
		}
	}
	for _, size := range []int{4096, 65536, 65536 + 16, 1 << 20} {
		if b, e := wire.WriteData(wire.DataMsg{Box: row(size)}); e != api.ErrForm || len(b) != 0 {
			t.Errorf("a Box of %d bytes: %d bytes, %v", size, len(b), e)
		}
	}
	if b, e := wire.WriteData(wire.DataMsg{Box: nil}); e != api.ErrForm || len(b) != 0 {
		t.Errorf("no Box: % x %v", b, e)
	}
}

// P13.4, P2: messages go there and back, in one way alone: what is read is written as it stood, and each byte counts.
func TestThereAndBack(t *testing.T) {
	for _, b := range messages() {
		kind := int(b[0])
		m, e := read(kind, b)
		if e != api.OK {
			t.Fatalf("%d bytes of kind %d: %v", len(b), kind, e)
		}
		if again := write(t, m); !bytes.Equal(again, b) {
			t.Errorf("kind %d: % x, want % x", kind, again, b)
		}
		for at := range b {
			turned := slices.Clone(b)
			turned[at] ^= 128
			other, e := read(kind, turned)
			if at < 4 && e != api.ErrKind || at >= 4 && (e != api.OK || reflect.DeepEqual(other, m)) {
				t.Errorf("kind %d turned at %d: %v %v", kind, at, other, e)
			}
		}
	}
	r := rand.New(rand.NewPCG(13, 4))
	for range 2000 {
		for _, b := range messages()[:5] {
			kind := int(b[0])
			for i := 4; i < len(b); i++ {
				b[i] = byte(r.Uint32())
			}
			m, e := read(kind, b)
			if e != api.OK || !bytes.Equal(write(t, m), b) {
				t.Fatalf("% x: %v %v", b, m, e)
			}
			if again, e := read(kind, write(t, m)); e != api.OK || !reflect.DeepEqual(again, m) {
				t.Fatalf("%v: %v %v", m, again, e)
			}
		}
	}
}

// P13.5: bytes are of one kind at most, the one that Kind tells.
func TestOneKindAtMost(t *testing.T) {
	for first := range 256 {
		for _, size := range []int{0, 1, 3, 4, 16, 31, 32, 48, 63, 64, 65, 80, 91, 92, 93, 96, 147, 148, 149, 160, 1536, 1537, 1552} {
			for _, second := range []byte{0, 1} {
				b := make([]byte, size)
				copy(b, []byte{byte(first), second})
				kind, told := wire.Kind(b)
				count := 0
				for _, k := range kinds {
					_, e := read(k, b)
					if e == api.OK {
						count++
					}
					if (e == api.OK) != (k == kind && told == api.OK) {
						t.Errorf("% x of %d: kind %d %v, read as %d: %v", b[:min(4, size)], size, kind, told, k, e)
					}
				}
				if right := rightSize(first, size) && second == 0; count > 1 || (count == 1) != right {
					t.Errorf("%d %d, %d bytes: %d kinds", first, second, size, count)
				}
			}
		}
	}
}

// P13.6: a message of the first three kinds that is cut, or has a byte more, is none.
func TestCutOrLonger(t *testing.T) {
	for _, b := range messages()[:3] {
		for n := range len(b) {
			want := api.ErrForm
			if n < 4 {
				want = api.ErrShort
			}
			wantError(t, b[:n:n], want)
			// What lies behind the length is not read.
			wantError(t, b[:n], want)
		}
		for _, v := range []byte{0, 1, 255} {
			wantError(t, append(slices.Clone(b), v), api.ErrForm)
		}
		wantKind(t, b, int(b[0]))
	}
}

// P1: all bytes are answered.
func TestAllBytes(t *testing.T) {
	r := rand.New(rand.NewPCG(13, 1))
	for range 20000 {
		b := make([]byte, r.IntN(200))
		for i := range b {
			b[i] = byte(r.Uint32())
		}
		copy(b, []byte{byte(r.IntN(6)), byte(r.IntN(2)), 0, 0})
		k, e := wire.Kind(b)
		if (k == 0) != (e != api.OK) || k < 0 || k > 4 {
			t.Fatalf("% x: %d %v", b, k, e)
		}
		for _, kind := range kinds {
			if m, e := read(kind, b); e != api.OK && !isZero(m) {
				t.Fatalf("% x read as %d: %v %v", b, kind, m, e)
			}
		}
	}
}

// Rules 4 and 5: what is handed in is not changed, what lies behind it is neither read nor written nor handed out, answers are new memory.
func TestWhatIsHandedInStays(t *testing.T) {
	for _, b := range messages() {
		room := append(slices.Clone(b), row(50)...)
		before := slices.Clone(room)
		part := room[:len(b)]
		m, _ := read(int(b[0]), part)
		wire.Kind(part)
		if !bytes.Equal(room, before) {
			t.Errorf("kind %d: what is handed in is changed", b[0])
		}
		clear(room)
		if again := write(t, m); !bytes.Equal(again, b) || cap(again) != len(again) {
			t.Errorf("kind %d: what is read shares what was handed in", b[0])
		}
	}
	room := append(row(32), row(50)...)
	before := slices.Clone(room)
	b, _ := wire.WriteData(wire.DataMsg{Box: room[:32]})
	if !bytes.Equal(room, before) {
		t.Error("WriteData changes what is handed in")
	}
	clear(room)
	if !bytes.Equal(b[16:], row(32)) || cap(b) != len(b) {
		t.Error("WriteData shares its Box")
	}
	m, _ := wire.ReadData(b)
	if cap(m.Box) != len(m.Box) {
		t.Error("room behind a Box")
	}
	m.Box[0] ^= 255
	if n, _ := wire.ReadData(b); bytes.Equal(n.Box, m.Box) {
		t.Error("ReadData shares its bytes")
	}
}
