package inner_test

import (
	"bytes"
	"slices"
	"testing"

	"adit/api"
	"adit/inner"
)

// four is an address of IPv4.
func four(a, b, c, d byte) api.Addr { return api.Addr{B: [16]byte{a, b, c, d}} }

// six is an address of IPv6 whose bytes each are greater by one than the one ahead.
func six(first int) api.Addr {
	out := api.Addr{Six: true}
	for i := range out.B {
		out.B[i] = byte(first + i)
	}
	return out
}

// row is so many bytes, each unlike its neighbours.
func row(n int) []byte {
	out := make([]byte, n)
	for i := range out {
		out[i] = byte(i*7 + 1)
	}
	return out
}

// ends are two addresses of one kind, who sends and to whom it goes.
type ends struct{ from, to api.Addr }

// pairs are addresses between which packets go.
func pairs() []ends {
	return []ends{{four(1, 2, 3, 4), four(5, 6, 7, 8)}, {four(5, 6, 7, 8), four(1, 2, 3, 4)}, {api.Addr{}, api.Addr{}},
		{four(255, 255, 255, 255), four(255, 255, 255, 255)}, {four(10, 0, 0, 1), four(10, 0, 0, 1)}, {four(0, 0, 0, 1), four(128, 0, 0, 0)},
		{six(1), six(101)}, {six(101), six(1)}, {api.Addr{Six: true}, api.Addr{Six: true}}, {six(250), six(250)}, {api.Addr{Six: true, B: [16]byte{1, 2, 3, 4}}, six(0)}}
}

// headOf is how many bytes the header has that is written between two addresses.
func headOf(p ends) int {
	if p.from.Six {
		return 40
	}
	return 20
}

// sumOf is what a sum has to be: as a number modulo 65535 it is the sum of all, and 0 of noughts alone.
func sumOf(b []byte) uint16 {
	all := uint64(0)
	for i, v := range b {
		if i%2 == 0 {
			all += uint64(v) * 256
		} else {
			all += uint64(v)
		}
	}
	if all > 0 && all%65535 == 0 {
		return 65535
	}
	return uint16(all % 65535)
}

// right puts the header's sum right, of so many bytes of header.
func right(b []byte, head int) []byte {
	b[10], b[11] = 0, 0
	left := 65535 - sumOf(b[:head])
	b[10], b[11] = byte(left>>8), byte(left)
	return b
}

// packetFour is a packet of IPv4 with so many words of header, of this size, in so many bytes.
func packetFour(count, size, n int) []byte {
	b := row(n)
	b[0], b[2], b[3] = byte(64+count), byte(size>>8), byte(size)
	return right(b, min(4*count, n))
}

// packetSix is a packet of IPv6 that tells so many bytes behind the header, in so many bytes.
func packetSix(told, n int) []byte {
	b := row(n)
	b[0], b[4], b[5] = 0x6f, byte(told>>8), byte(told)
	return b
}

// wantError holds that bytes are read and cut as no packet, with an error.
func wantError(t *testing.T, b []byte, want api.Errno) {
	t.Helper()
	if p, e := inner.Read(b); p != (inner.Packet{}) || e != want {
		t.Errorf("Read(% x): %v %v, want %v", b, p, e, want)
	}
	if c, e := inner.Cut(b); len(c) != 0 || e != want {
		t.Errorf("Cut(% x): %v %v, want %v", b, c, e, want)
	}
}

// wantPacket holds what a packet is read as, and what it is cut to.
func wantPacket(t *testing.T, b []byte, want inner.Packet) {
	t.Helper()
	if p, e := inner.Read(b); p != want || e != api.OK {
		t.Errorf("Read(% x): %v %v, want %v", b, p, e, want)
	}
	if c, e := inner.Cut(b); !bytes.Equal(c, b[:want.Size]) || e != api.OK {
		t.Errorf("Cut(% x): % x %v", b, c, e)
	}
}

// written is a packet, as it is written.
func written(t *testing.T, p ends, body []byte) []byte {
	t.Helper()
	b, e := inner.Write(p.from, p.to, body)
	if e != api.OK {
		t.Fatalf("Write(%v, %d bytes): %v", p, len(body), e)
	}
	return b
}

// P12.2: Sum.
func TestSum(t *testing.T) {
	for _, c := range []struct {
		b    []byte
		want uint16
	}{
		{nil, 0}, {[]byte{}, 0}, {[]byte{0}, 0}, {[]byte{0, 0, 0}, 0}, {[]byte{1}, 256}, {[]byte{0, 1}, 1}, {[]byte{1, 2}, 258}, {[]byte{1, 2, 3}, 1026},
		{[]byte{255}, 65280}, {[]byte{255, 255}, 65535}, {[]byte{255, 255, 0, 1}, 1}, {[]byte{255, 255, 255, 255}, 65535}, {[]byte{255, 255, 1}, 256},
		{[]byte{128, 0, 128, 0}, 1}, {[]byte{255, 254, 0, 1}, 65535}, {[]byte{255, 254, 0, 2}, 1}, {[]byte{255, 0, 255}, 65025},
		{[]byte{0, 1, 0xf2, 3, 0xf4, 0xf5, 0xf6, 0xf7}, 0xddf2},
		// The header of the example that is known best: its sum is right.
		{[]byte{0x45, 0, 0, 0x73, 0, 0, 0x40, 0, 0x40, 0x11, 0xb8, 0x61, 0xc0, 0xa8, 0, 1, 0xc0, 0xa8, 0, 0xc7}, 65535},
		{[]byte{0x45, 0, 0, 0x73, 0, 0, 0x40, 0, 0x40, 0x11, 0, 0, 0xc0, 0xa8, 0, 1, 0xc0, 0xa8, 0, 0xc7}, 65535 - 0xb861},
	} {
		if got := inner.Sum(c.b); got != c.want {
			t.Errorf("Sum(% x): %d, want %d", c.b, got, c.want)
		}
	}
	for n := range 600 {
		for _, b := range [][]byte{row(n), bytes.Repeat([]byte{255}, n), bytes.Repeat([]byte{128}, n), bytes.Repeat([]byte{0, 255}, n)} {
			if got := inner.Sum(b); got != sumOf(b) {
				t.Errorf("Sum of %d bytes: %d, want %d", len(b), got, sumOf(b))
			}
		}
	}
}

// P12.2: what leaves at the top is added again and again.
func TestSumThatLeavesAgain(t *testing.T) {
	// 131073 times 65535, and 1: what leaves leaves 131071, which leaves 65536, which leaves 1.
	b := append(bytes.Repeat([]byte{255, 255}, 131073), 0, 1)
	if got := inner.Sum(b); got != 1 {
		t.Errorf("that leaves three times: %d", got)
	}
	if got := inner.Sum(bytes.Repeat([]byte{255}, 1<<22)); got != 65535 {
		t.Errorf("of many: %d", got)
	}
	if got := inner.Sum(append(bytes.Repeat([]byte{255}, 1<<22), 1)); got != 256 {
		t.Errorf("of many, and one alone: %d", got)
	}
}

// P12.1: Read of IPv4, with each header that there may be.
func TestReadFour(t *testing.T) {
	for count := 5; count <= 15; count++ {
		for _, size := range []int{4 * count, 4*count + 1, 61, 100, 255, 256, 257, 1500, 3000} {
			for _, behind := range []int{0, 1, 15, 100} {
				if size < 4*count {
					continue
				}
				b := packetFour(count, size, size+behind)
				wantPacket(t, b, inner.Packet{From: four(b[12], b[13], b[14], b[15]), To: four(b[16], b[17], b[18], b[19]), Size: size})
			}
		}
	}
	// As great as two bytes tell, and more bytes than that.
	b := packetFour(5, 65535, 70000)
	wantPacket(t, b, inner.Packet{From: four(b[12], b[13], b[14], b[15]), To: four(b[16], b[17], b[18], b[19]), Size: 65535})
}

// P12.1: Read of IPv6.
func TestReadSix(t *testing.T) {
	for _, told := range []int{0, 1, 2, 20, 255, 256, 257, 1460, 1461, 65535} {
		for _, behind := range []int{0, 1, 15, 100} {
			b := packetSix(told, 40+told+behind)
			want := inner.Packet{From: api.Addr{Six: true}, To: api.Addr{Six: true}, Size: 40 + told}
			copy(want.From.B[:], b[8:24])
			copy(want.To.B[:], b[24:40])
			wantPacket(t, b, want)
			// What else the header tells is of no matter, but for its kind and its size.
			for _, at := range []int{0, 1, 2, 3, 6, 7} {
				other := slices.Clone(b)
				other[at] ^= 0x0f
				wantPacket(t, other, want)
			}
		}
	}
}

// P12.1: fewer bytes than a header has.
func TestReadOfShort(t *testing.T) {
	wantError(t, nil, api.ErrShort)
	wantError(t, []byte{}, api.ErrShort)
	for n := 1; n < 20; n++ {
		for _, first := range []byte{0x40, 0x44, 0x45, 0x46, 0x4f} {
			b := make([]byte, n)
			b[0] = first
			wantError(t, b, api.ErrShort)
		}
	}
	for n := 1; n < 40; n++ {
		for _, first := range []byte{0x60, 0x65, 0x6f} {
			b := make([]byte, n)
			b[0] = first
			wantError(t, b, api.ErrShort)
		}
	}
}

// P12.1: which kind a packet is of is told ahead of its length.
func TestReadOfEachKind(t *testing.T) {
	for first := range 256 {
		if kind := first / 16; kind == 4 || kind == 6 {
			continue
		}
		for _, n := range []int{1, 2, 19, 20, 39, 40, 100} {
			b := packetFour(5, 20, max(n, 20))[:n]
			b[0] = byte(first)
			if n >= 20 {
				right(b, 20)
			}
			wantError(t, b, api.ErrHeader)
		}
	}
}

// P12.1: headers of IPv4 that are none.
func TestReadOfWrongFours(t *testing.T) {
	// Too few words of header.
	for count := range 5 {
		for _, n := range []int{20, 40, 100} {
			b := packetFour(count, n, n)
			wantError(t, b, api.ErrHeader)
			wantError(t, right(b, 20), api.ErrHeader)
		}
	}
	for count := 5; count <= 15; count++ {
		// A header beyond the bytes, or beyond the size; a size beyond the bytes.
		for n := 20; n < 4*count; n++ {
			wantError(t, packetFour(count, n, n), api.ErrHeader)
			wantError(t, packetFour(count, 4*count, n), api.ErrHeader)
			wantError(t, packetFour(count, n, 100), api.ErrHeader)
		}
		for _, size := range []int{0, 1, 19, 4*count - 1, 101, 102, 356, 65535} {
			wantError(t, packetFour(count, size, 100), api.ErrHeader)
		}
		// A sum that is not right, though that of fewer or more bytes is.
		for head := 12; head <= 100; head += 2 {
			b := packetFour(count, 100, 100)
			if b = right(b, head); sumOf(b[:4*count]) != 65535 {
				wantError(t, b, api.ErrHeader)
			}
		}
	}
	wantError(t, packetFour(5, 21, 20), api.ErrHeader)
	wantError(t, make([]byte, 20), api.ErrHeader)
	wantError(t, append([]byte{0x45}, make([]byte, 19)...), api.ErrHeader)
}

// P12.1: headers of IPv6 that are none.
func TestReadOfWrongSixes(t *testing.T) {
	for _, n := range []int{40, 41, 100, 1500} {
		for _, told := range []int{n - 39, n - 38, n, n + 1, 256 * n, 65535} {
			if told <= 65535 {
				wantError(t, packetSix(told, n), api.ErrHeader)
			}
		}
	}
	wantError(t, packetSix(65535, 65574), api.ErrHeader)
}

// P12.2: Write of IPv4, and the chapter's example.
func TestWriteFour(t *testing.T) {
	b := written(t, ends{four(1, 2, 3, 4), four(5, 6, 7, 8)}, nil)
	if want := []byte{69, 0, 0, 20, 0, 0, 0, 0, 64, 17, 0x6a, 0xc6, 1, 2, 3, 4, 5, 6, 7, 8}; !bytes.Equal(b, want) {
		t.Errorf("the example: % x, want % x", b, want)
	}
	b = written(t, ends{four(192, 168, 0, 1), four(192, 168, 0, 199)}, []byte("ab"))
	if want := []byte{69, 0, 0, 22, 0, 0, 0, 0, 64, 17, 0xf8, 0xbe, 192, 168, 0, 1, 192, 168, 0, 199, 'a', 'b'}; !bytes.Equal(b, want) {
		t.Errorf("with a body: % x, want % x", b, want)
	}
	for _, p := range pairs() {
		for _, n := range []int{0, 1, 2, 3, 16, 235, 236, 237, 1459, 1460, 1461, 1479, 1480} {
			if p.from.Six {
				continue
			}
			want := []byte{69, 0, byte((n + 20) >> 8), byte(n + 20), 0, 0, 0, 0, 64, 17, 0, 0}
			want = append(append(want, p.from.B[:4]...), p.to.B[:4]...)
			want = append(right(want, 20), row(n)...)
			if b := written(t, p, row(n)); !bytes.Equal(b, want) {
				t.Errorf("%v: % x, want % x", p, b, want)
			}
		}
	}
}

// P12.2: a header whose sum is right without a number has the number 0.
func TestWriteWithoutANumber(t *testing.T) {
	// 0x4500 and 0x14 and 0x4011 are 0x8525; 0x7ada is what that is short of 0xffff.
	b := written(t, ends{four(0x7a, 0xda, 0, 0), api.Addr{}}, nil)
	if b[10] != 0 || b[11] != 0 || inner.Sum(b) != 65535 {
		t.Errorf("% x", b)
	}
	b = written(t, ends{four(0xff, 0xff, 0x7a, 0xda), four(0xff, 0xff, 0xff, 0xff)}, nil)
	if b[10] != 0 || b[11] != 0 || inner.Sum(b) != 65535 {
		t.Errorf("% x", b)
	}
}

// P12.2: Write of IPv6.
func TestWriteSix(t *testing.T) {
	for _, p := range pairs() {
		for _, n := range []int{0, 1, 2, 3, 16, 255, 256, 257, 1459, 1460} {
			if !p.from.Six {
				continue
			}
			want := []byte{96, 0, 0, 0, byte(n >> 8), byte(n), 17, 64}
			want = append(append(append(want, p.from.B[:]...), p.to.B[:]...), row(n)...)
			if b := written(t, p, row(n)); !bytes.Equal(b, want) {
				t.Errorf("%v: % x, want % x", p, b, want)
			}
		}
	}
}

// P12.2: addresses between which there are no packets, and bodies that are too long; that of the addresses is told first.
func TestWriteOfWrongs(t *testing.T) {
	var wrong []ends
	for i := 4; i < 16; i++ {
		a := four(1, 2, 3, 4)
		a.B[i] = 1
		wrong = append(wrong, ends{a, four(1, 2, 3, 4)}, ends{four(1, 2, 3, 4), a}, ends{a, a}, ends{a, six(1)}, ends{six(1), a})
	}
	wrong = append(wrong, ends{four(1, 2, 3, 4), six(1)}, ends{six(1), four(1, 2, 3, 4)}, ends{api.Addr{}, api.Addr{Six: true}}, ends{api.Addr{Six: true}, api.Addr{}})
	for _, p := range wrong {
		for _, n := range []int{0, 1, 1460, 1480, 1481, 1500, 70000} {
			if b, e := inner.Write(p.from, p.to, row(n)); len(b) != 0 || e != api.ErrAddr {
				t.Errorf("Write(%v, %d bytes): % x %v", p, n, b, e)
			}
		}
	}
	for _, p := range pairs() {
		for _, n := range []int{api.MaxPacket - headOf(p) + 1, api.MaxPacket, api.MaxPacket + 1, 65516, 65536, 1 << 20} {
			if b, e := inner.Write(p.from, p.to, row(n)); len(b) != 0 || e != api.ErrLong {
				t.Errorf("Write(%v, %d bytes): %d bytes, %v", p, n, len(b), e)
			}
		}
	}
}

// P12.3: Fill.
func TestFill(t *testing.T) {
	for n := range api.MaxPacket + 1 {
		b, e := inner.Fill(row(n))
		if e != api.OK || len(b)%16 != 0 || len(b) < n || len(b) >= n+16 {
			t.Fatalf("Fill of %d bytes: %d bytes, %v", n, len(b), e)
		}
		if want := append(row(n), make([]byte, len(b)-n)...); !bytes.Equal(b, want) {
			t.Errorf("Fill of %d bytes: % x", n, b)
		}
	}
	if b, e := inner.Fill(nil); len(b) != 0 || e != api.OK {
		t.Errorf("Fill of nothing: %v %v", b, e)
	}
	if b, _ := inner.Fill(row(api.MaxPacket)); len(b) != 1504 {
		t.Errorf("Fill of the longest: %d bytes", len(b))
	}
	for _, n := range []int{api.MaxPacket + 1, api.MaxPacket + 4, 1504, 1505, 65536, 1 << 20} {
		if b, e := inner.Fill(row(n)); len(b) != 0 || e != api.ErrLong {
			t.Errorf("Fill of %d bytes: %d bytes, %v", n, len(b), e)
		}
	}
}

// P12.3: Cut takes what is filled away, and nothing else; of packets that are longer than any that is written, too.
func TestCut(t *testing.T) {
	for _, size := range []int{20, 21, 32, 100, 1500, 1501, 40000} {
		for _, behind := range []int{0, 1, 12, 16, 500} {
			b := packetFour(5, size, size+behind)
			if c, e := inner.Cut(b); !bytes.Equal(c, b[:size]) || e != api.OK {
				t.Errorf("%d of %d bytes: %d, %v", size, len(b), len(c), e)
			}
			b = packetSix(size, 40+size+behind)
			if c, e := inner.Cut(b); !bytes.Equal(c, b[:40+size]) || e != api.OK {
				t.Errorf("%d of %d bytes: %d, %v", 40+size, len(b), len(c), e)
			}
		}
	}
}

// P12.4: what is written is read as it was, filled as well.
func TestWrittenAndRead(t *testing.T) {
	for _, p := range pairs() {
		for n := 0; n <= api.MaxPacket-headOf(p); n += 1 + n/50 {
			b := written(t, p, row(n))
			want := inner.Packet{From: p.from, To: p.to, Size: headOf(p) + n}
			wantPacket(t, b, want)
			if len(b) != want.Size || !bytes.Equal(b[headOf(p):], row(n)) {
				t.Errorf("%v: the body of %d bytes is another one", p, n)
			}
			filled, e := inner.Fill(b)
			if e != api.OK {
				t.Fatalf("Fill: %v", e)
			}
			wantPacket(t, filled, want)
			if c, e := inner.Cut(filled); !bytes.Equal(c, b) || e != api.OK {
				t.Errorf("%v: cut to % x %v", p, c, e)
			}
		}
	}
}

// P12.5: a packet's size is never more than there is, however it is cut off, and whatever its size says.
func TestSizeIsNeverMore(t *testing.T) {
	for _, p := range pairs() {
		whole := written(t, p, row(50))
		for n := range len(whole) {
			want := api.ErrHeader
			if n < headOf(p) {
				want = api.ErrShort
			}
			wantError(t, whole[:n:n], want)
		}
		for size := range 300 {
			b := slices.Clone(whole)
			if p.from.Six {
				b[4], b[5] = byte(size>>8), byte(size)
			} else {
				b[2], b[3] = byte(size>>8), byte(size)
				right(b, 20)
			}
			got, e := inner.Read(b)
			if e == api.OK && got.Size > len(b) || e != api.OK && (e != api.ErrHeader || got != (inner.Packet{})) {
				t.Errorf("%v that says %d: %v %v", p, size, got, e)
			}
		}
	}
}

// P12.6: a packet whose header is turned in one byte but the first is none, or of IPv6.
func TestTurnedInOneByte(t *testing.T) {
	for _, p := range pairs() {
		if p.from.Six {
			continue
		}
		whole := written(t, p, row(700))
		for at := 1; at < 20; at++ {
			for turn := 1; turn < 256; turn++ {
				b := slices.Clone(whole)
				b[at] ^= byte(turn)
				wantError(t, b, api.ErrHeader)
			}
		}
	}
	for count := 5; count <= 15; count++ {
		whole := packetFour(count, 700, 1000)
		for at := 1; at < 4*count; at++ {
			for turn := 1; turn < 256; turn++ {
				b := slices.Clone(whole)
				b[at] ^= byte(turn)
				wantError(t, b, api.ErrHeader)
			}
		}
		// What stands behind the header is not of it.
		for _, at := range []int{4 * count, 100, 699, 700, 999} {
			b := slices.Clone(whole)
			b[at] ^= 255
			if _, e := inner.Read(b); e != api.OK {
				t.Errorf("turned at %d, behind a header of %d: %v", at, 4*count, e)
			}
		}
	}
}

// P1: all bytes are answered.
func TestAllBytes(t *testing.T) {
	for first := range 256 {
		for second := range 256 {
			for _, n := range []int{1, 4, 19, 20, 21, 39, 40, 60, 80} {
				for _, fill := range []byte{0, 1, 255} {
					b := bytes.Repeat([]byte{fill}, n)
					b[0], b[n-1] = byte(first), byte(second)
					p, e := inner.Read(b)
					c, f := inner.Cut(b)
					if e != f || len(c) != p.Size || p.Size > n || e != api.OK && p != (inner.Packet{}) {
						t.Fatalf("% x: %v %v, % x %v", b, p, e, c, f)
					}
				}
			}
		}
	}
}

// Rules 4 and 5: what is handed in is not changed, what lies behind it is neither read nor written nor handed out, answers are new memory.
func TestWhatIsHandedInStays(t *testing.T) {
	for _, p := range pairs() {
		body := row(40)
		b := written(t, p, body[:7])
		if !bytes.Equal(body, row(40)) {
			t.Errorf("%v: Write changes its body", p)
		}
		clear(body)
		if !bytes.Equal(b[headOf(p):], row(7)) {
			t.Errorf("%v: what is written shares its body", p)
		}
		room := append(slices.Clone(b), row(50)...)
		before := slices.Clone(room)
		part := room[:len(b)]
		filled, _ := inner.Fill(part)
		cut, _ := inner.Cut(part)
		inner.Read(part)
		inner.Sum(part)
		if !bytes.Equal(room, before) {
			t.Errorf("%v: what is handed in is changed", p)
		}
		wantError(t, part[:len(b)-1], api.ErrHeader)
		clear(room)
		if !bytes.Equal(filled[:len(b)], b) || slices.Max(filled[len(b):]) != 0 || !bytes.Equal(cut, b) {
			t.Errorf("%v: answers share what was handed in", p)
		}
		if cap(b) != len(b) || cap(filled) != len(filled) || cap(cut) != len(cut) {
			t.Errorf("%v: room behind an answer", p)
		}
	}
	// A packet that needs no filling is new memory, too.
	whole := packetFour(5, 32, 32)
	filled, _ := inner.Fill(whole)
	cut, _ := inner.Cut(whole)
	whole[20] ^= 255
	if filled[20] == whole[20] || cut[20] == whole[20] {
		t.Error("answers share a packet that needs no filling")
	}
	if got := inner.Sum(whole[:0]); got != 0 {
		t.Errorf("Sum reads behind the list: %d", got)
	}
}
