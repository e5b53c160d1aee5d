package words_test

import (
	"bytes"
	"math"
	"strings"
	"testing"

	"adit/api"
	"adit/words"
)

// places are what an index, a count or a size may be at its edges and far beyond them.
func places() []int {
	return []int{math.MinInt, math.MinInt + 1, -1 << 32, -9, -8, -4, -1, 0, 1, 2, 3, 4, 5, 6, 7, 8, 9, 10, 12, 16, 64,
		1 << 32, math.MaxInt - 8, math.MaxInt - 4, math.MaxInt - 1, math.MaxInt}
}

// wide are numbers of 64 digits at their edges.
func wide() []uint64 {
	out := []uint64{0, 1, 0x0102030405060708, 0xf1e2d3c4b5a69788, math.MaxUint64}
	for i := range 64 {
		out = append(out, 1<<i, 1<<i-1)
	}
	return out
}

// row is n bytes that are all unlike.
func row(n int) []byte {
	out := make([]byte, n)
	for i := range out {
		out[i] = byte(i*7 + 1)
	}
	return out
}

// wantPlace is the error of reading size bytes from at on, out of n.
func wantPlace(n, at, size int) api.Errno {
	switch {
	case at < 0:
		return api.ErrArg
	case at > n || n-at < size:
		return api.ErrShort
	}
	return api.OK
}

// P1.1: Load32 and Load64.
func TestLoadTellsTheLeastFirst(t *testing.T) {
	b := []byte{1, 2, 3, 4, 0xf5, 0xf6, 0xf7, 0xf8, 9}
	if v, e := words.Load32(b, 0); v != 67305985 || e != api.OK {
		t.Errorf("Load32 at 0: %d %v", v, e)
	}
	if v, e := words.Load32(b, 4); v != 0xf8f7f6f5 || e != api.OK {
		t.Errorf("Load32 at 4: %x %v", v, e)
	}
	if v, e := words.Load32(b, 5); v != 0x09f8f7f6 || e != api.OK {
		t.Errorf("Load32 at the last place: %x %v", v, e)
	}
	if v, e := words.Load64(b, 0); v != 0xf8f7f6f504030201 || e != api.OK {
		t.Errorf("Load64 at 0: %x %v", v, e)
	}
	if v, e := words.Load64(b, 1); v != 0x09f8f7f6f5040302 || e != api.OK {
		t.Errorf("Load64 at the last place: %x %v", v, e)
	}
}

// P1.1, P1: every place of every length answers, with the error that is named first.
func TestLoadAtEachPlace(t *testing.T) {
	for n := range 18 {
		b := row(n)
		for _, at := range places() {
			v4, e4 := words.Load32(b, at)
			if want := wantPlace(n, at, 4); e4 != want || want != api.OK && v4 != 0 {
				t.Errorf("Load32 of %d at %d: %d %v, want %v", n, at, v4, e4, want)
			}
			v8, e8 := words.Load64(b, at)
			if want := wantPlace(n, at, 8); e8 != want || want != api.OK && v8 != 0 {
				t.Errorf("Load64 of %d at %d: %d %v, want %v", n, at, v8, e8, want)
			}
		}
	}
	if v, e := words.Load32(nil, -1); v != 0 || e != api.ErrArg {
		t.Errorf("Load32 of nothing below 0: %d %v", v, e)
	}
	if v, e := words.Load64(nil, 0); v != 0 || e != api.ErrShort {
		t.Errorf("Load64 of nothing: %d %v", v, e)
	}
}

// P1.1: Put32 and Put64.
func TestPutTellsTheLeastFirst(t *testing.T) {
	if b := words.Put32(67305985); b != [4]byte{1, 2, 3, 4} {
		t.Errorf("Put32: %v", b)
	}
	if b := words.Put32(0xfffefdfc); b != [4]byte{0xfc, 0xfd, 0xfe, 0xff} {
		t.Errorf("Put32: %v", b)
	}
	if b := words.Put64(0xf8f7f6f504030201); b != [8]byte{1, 2, 3, 4, 0xf5, 0xf6, 0xf7, 0xf8} {
		t.Errorf("Put64: %v", b)
	}
}

// P1.1: Big.
func TestBigTellsTheGreatestFirst(t *testing.T) {
	b := []byte{0xf1, 2, 3, 4, 5, 6, 7, 8, 9}
	want := []uint64{0xf1, 0xf102, 0xf10203, 0xf1020304, 0xf102030405, 0xf10203040506, 0xf1020304050607, 0xf102030405060708}
	for i, w := range want {
		if v, e := words.Big(b, 0, i+1); v != w || e != api.OK {
			t.Errorf("Big of %d bytes: %x %v, want %x", i+1, v, e, w)
		}
	}
	if v, e := words.Big(b, 1, 8); v != 0x0203040506070809 || e != api.OK {
		t.Errorf("Big at the last place: %x %v", v, e)
	}
	if v, e := words.Big(b, 8, 1); v != 9 || e != api.OK {
		t.Errorf("Big of the last byte: %x %v", v, e)
	}
}

// P1.1, P1: Big at every place, of every size.
func TestBigAtEachPlace(t *testing.T) {
	for n := range 18 {
		b := row(n)
		for _, at := range places() {
			for _, size := range places() {
				want := api.ErrArg
				if size >= 1 && size <= 8 {
					want = wantPlace(n, at, size)
				}
				if v, e := words.Big(b, at, size); e != want || want != api.OK && v != 0 {
					t.Errorf("Big of %d at %d of %d: %d %v, want %v", n, at, size, v, e, want)
				}
			}
		}
	}
	if _, e := words.Big(nil, 100, 0); e != api.ErrArg {
		t.Errorf("Big of size 0 past the end: %v", e)
	}
}

// P1.1: PutBig.
func TestPutBig(t *testing.T) {
	for _, v := range wide() {
		for _, size := range places() {
			b, e := words.PutBig(v, size)
			switch {
			case size < 1 || size > 8:
				if e != api.ErrArg || len(b) != 0 {
					t.Errorf("PutBig(%d, %d): %v %v", v, size, b, e)
				}
			case size < 8 && v >= 1<<(8*size):
				if e != api.ErrLong || len(b) != 0 {
					t.Errorf("PutBig(%d, %d): %v %v", v, size, b, e)
				}
			case e != api.OK || len(b) != size:
				t.Errorf("PutBig(%d, %d): %v %v", v, size, b, e)
			}
		}
	}
	if b, e := words.PutBig(0x0203, 3); !bytes.Equal(b, []byte{0, 2, 3}) || e != api.OK {
		t.Errorf("PutBig: %v %v", b, e)
	}
	if _, e := words.PutBig(256, 0); e != api.ErrArg {
		t.Errorf("PutBig of size 0, too long as well: %v", e)
	}
}

// P1.2: Rotate.
func TestRotate(t *testing.T) {
	for _, c := range []struct {
		v    uint32
		n    int
		want uint32
	}{
		{1, 0, 1}, {1, 1, 2}, {1, 31, 1 << 31}, {1, 32, 1}, {1, 33, 2}, {1 << 31, 1, 1},
		{1, -1, 2147483648}, {1, -31, 2}, {1, -32, 1}, {1, -33, 2147483648},
		{0x12345678, 8, 0x34567812}, {0x12345678, -8, 0x78123456}, {0x12345678, 1 << 40, 0x12345678},
		{0x12345678, math.MaxInt, 0x091a2b3c}, {0x12345678, math.MinInt, 0x12345678}, {0x12345678, math.MinInt + 4, 0x23456781},
		{math.MaxUint32, 13, math.MaxUint32}, {0, 13, 0},
	} {
		if got := words.Rotate(c.v, c.n); got != c.want {
			t.Errorf("Rotate(%x, %d): %x, want %x", c.v, c.n, got, c.want)
		}
	}
}

// P1.5: turned by both; by 32 it is itself.
func TestRotateTwice(t *testing.T) {
	for _, v := range []uint32{0, 1, 0x80000001, 0x12345678, 0xdeadbeef, math.MaxUint32} {
		for n := -70; n <= 70; n++ {
			if got := words.Rotate(words.Rotate(v, n), 32); got != words.Rotate(v, n) {
				t.Errorf("%x by %d and 32: %x", v, n, got)
			}
			for m := -70; m <= 70; m++ {
				if got := words.Rotate(words.Rotate(v, n), m); got != words.Rotate(v, n+m) {
					t.Errorf("%x by %d and %d: %x", v, n, m, got)
				}
			}
		}
	}
}

// P1.2: Equal.
func TestEqual(t *testing.T) {
	if !words.Equal(nil, nil) || !words.Equal(nil, []byte{}) || !words.Equal([]byte{}, nil) {
		t.Error("nothing is unlike nothing")
	}
	for n := range 20 {
		a := row(n)
		if !words.Equal(a, row(n)) {
			t.Errorf("%d bytes are unlike themselves", n)
		}
		if words.Equal(a, row(n+1)) || words.Equal(row(n+1), a) {
			t.Errorf("%d bytes are like one more", n)
		}
		for i := range n {
			for bit := range 8 {
				b := row(n)
				b[i] ^= 1 << bit
				if words.Equal(a, b) || words.Equal(b, a) {
					t.Errorf("%d bytes: the digit %d of %d does not count", n, bit, i)
				}
			}
		}
	}
	if words.Equal([]byte{1, 2}, []byte{2, 1}) || words.Equal([]byte{1, 1}, []byte{2, 2}) {
		t.Error("unlike bytes are told to be the same")
	}
}

// P1.3: Hex.
func TestHex(t *testing.T) {
	if s := words.Hex(nil); s != "" {
		t.Errorf("Hex of nothing: %q", s)
	}
	if s := words.Hex([]byte{0, 10, 0x9f, 0xf0, 255}); s != "000a9ff0ff" {
		t.Errorf("Hex: %q", s)
	}
	const digits = "0123456789abcdef"
	for v := range 256 {
		want := digits[v/16:v/16+1] + digits[v%16:v%16+1]
		if s := words.Hex([]byte{byte(v)}); s != want {
			t.Errorf("Hex of %d: %q, want %q", v, s, want)
		}
	}
}

// P1.3: Unhex.
func TestUnhex(t *testing.T) {
	fault := func(at int, code api.Errno) api.Fault { return api.Fault{At: at, Code: code} }
	for _, c := range []struct {
		s    string
		want []byte
		f    api.Fault
	}{
		{"", nil, api.Fault{}},
		{"00", []byte{0}, api.Fault{}},
		{"09afAF", []byte{9, 0xaf, 0xaf}, api.Fault{}},
		{"aF1b", []byte{0xaf, 0x1b}, api.Fault{}},
		{"a", nil, fault(1, api.ErrShort)},
		{"abc", nil, fault(3, api.ErrShort)},
		{"g", nil, fault(0, api.ErrByte)},
		{"0g", nil, fault(1, api.ErrByte)},
		{"00g", nil, fault(2, api.ErrByte)},
		{"0gg0", nil, fault(1, api.ErrByte)},
		{" 00", nil, fault(0, api.ErrByte)},
		{"00 ", nil, fault(2, api.ErrByte)},
		{"0x00", nil, fault(1, api.ErrByte)},
		{"0\xff", nil, fault(1, api.ErrByte)},
		{"é", nil, fault(0, api.ErrByte)},
		{"0\x00", nil, fault(1, api.ErrByte)},
	} {
		if b, f := words.Unhex(c.s); !bytes.Equal(b, c.want) || f != c.f {
			t.Errorf("Unhex(%q): %v %v, want %v %v", c.s, b, f, c.want, c.f)
		}
	}
}

// P1.3: which bytes are digits, at either place.
func TestUnhexOfEachByte(t *testing.T) {
	const small, large = "0123456789abcdef", "0123456789ABCDEF"
	for v := range 256 {
		c := string([]byte{byte(v)})
		d := max(strings.Index(small, c), strings.Index(large, c))
		front, f := words.Unhex(c + "0")
		back, g := words.Unhex("0" + c)
		if d < 0 {
			if len(front) != 0 || len(back) != 0 || f != (api.Fault{Code: api.ErrByte}) || g != (api.Fault{At: 1, Code: api.ErrByte}) {
				t.Errorf("byte %d: %v %v, %v %v", v, front, f, back, g)
			}
		} else if !bytes.Equal(front, []byte{byte(16 * d)}) || !bytes.Equal(back, []byte{byte(d)}) || f != (api.Fault{}) || g != (api.Fault{}) {
			t.Errorf("byte %d: %v %v, %v %v", v, front, f, back, g)
		}
	}
}

// P1.3: at the limit, and one beyond it; that it is too long is told first.
func TestUnhexOfLongTexts(t *testing.T) {
	const most = 2 * api.MaxText
	if b, f := words.Unhex(strings.Repeat("f", most)); len(b) != api.MaxText || b[0] != 255 || b[api.MaxText-1] != 255 || f != (api.Fault{}) {
		t.Errorf("the longest: %d %v", len(b), f)
	}
	if b, f := words.Unhex(strings.Repeat("f", most-1)); len(b) != 0 || f != (api.Fault{At: most - 1, Code: api.ErrShort}) {
		t.Errorf("one less: %d %v", len(b), f)
	}
	if b, f := words.Unhex(strings.Repeat("f", most-1) + "g"); len(b) != 0 || f != (api.Fault{At: most - 1, Code: api.ErrByte}) {
		t.Errorf("the last one wrong: %d %v", len(b), f)
	}
	for _, s := range []string{strings.Repeat("f", most+1), strings.Repeat("f", most+2), strings.Repeat("g", most+1)} {
		if b, f := words.Unhex(s); len(b) != 0 || f != (api.Fault{At: 0, Code: api.ErrLong}) {
			t.Errorf("beyond the longest: %d %v", len(b), f)
		}
	}
}

// P1.4: numbers and bytes go there and back.
func TestNumbersThereAndBack(t *testing.T) {
	for _, v := range wide() {
		small := words.Put32(uint32(v))
		if got, e := words.Load32(small[:], 0); got != uint32(v) || e != api.OK {
			t.Errorf("%x of 32 digits: %x %v", v, got, e)
		}
		large := words.Put64(v)
		if got, e := words.Load64(large[:], 0); got != v || e != api.OK {
			t.Errorf("%x of 64 digits: %x %v", v, got, e)
		}
		for size := 1; size <= 8; size++ {
			b, e := words.PutBig(v, size)
			if e != api.OK {
				continue
			}
			if got, f := words.Big(b, 0, size); got != v || f != api.OK {
				t.Errorf("%x of %d bytes: %x %v", v, size, got, f)
			}
		}
	}
	for size := 1; size <= 8; size++ {
		v, _ := words.Big(row(8), 0, size)
		if b, e := words.PutBig(v, size); !bytes.Equal(b, row(8)[:size]) || e != api.OK {
			t.Errorf("%d bytes: %v %v", size, b, e)
		}
	}
}

// P1.6: digits go there and back, in one way but for large letters.
func TestDigitsThereAndBack(t *testing.T) {
	for n := range 300 {
		b := row(n)
		s := words.Hex(b)
		if got, f := words.Unhex(s); !bytes.Equal(got, b) || f != (api.Fault{}) {
			t.Errorf("%d bytes: %v %v", n, got, f)
		}
		large, f := words.Unhex(strings.ToUpper(s))
		if f != (api.Fault{}) || words.Hex(large) != s {
			t.Errorf("%d bytes in large letters: %v", n, f)
		}
	}
}

// Rules 4 and 5: what is handed in is not changed, what lies behind it is neither read nor handed out, answers are new memory.
func TestWhatIsHandedInStays(t *testing.T) {
	whole := row(16)
	b := whole[:3]
	if _, e := words.Load32(b, 0); e != api.ErrShort {
		t.Errorf("Load32 reads behind the list: %v", e)
	}
	if _, e := words.Big(b, 0, 4); e != api.ErrShort {
		t.Errorf("Big reads behind the list: %v", e)
	}
	if s := words.Hex(b); len(s) != 6 {
		t.Errorf("Hex reads behind the list: %q", s)
	}
	words.Load64(whole, 0)
	words.Equal(whole, b)
	if !bytes.Equal(whole, row(16)) {
		t.Errorf("changed: %v", whole)
	}
	one, _ := words.PutBig(7, 2)
	two, _ := words.PutBig(7, 2)
	one[1] = 9
	if two[1] != 7 {
		t.Error("two answers share memory")
	}
	one, _ = words.Unhex("0102")
	one[0] = 9
	if two, _ = words.Unhex("0102"); two[0] != 1 {
		t.Error("an answer is kept")
	}
}
