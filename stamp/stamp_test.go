package stamp_test

import (
	"bytes"
	"encoding/binary"
	"math"
	"testing"

	"adit/api"
	"adit/stamp"
)

// base is what the label of time 0 tells as its seconds.
const base = 4611686018427387914

// times are times at their edges, and ordinary ones; rising.
func times() []int64 {
	out := []int64{0, 1, 2, 254, 255, 256, 257, 500, 998, 999, 1000, 1001, 1500, 1999, 2000, 5000, 9999, 10000, 65535, 65536, 120000, 180000,
		245999, 246000, 255999, 256000, 1<<24 - 1, 1 << 24, 1<<31 - 1, 1 << 31, 1<<32 - 1, 1 << 32, 1 << 39, 999999999999, 1000000000000,
		1099511626999, 1099511627000}
	for t := int64(api.MaxTime - 3); t <= api.MaxTime; t++ {
		out = append(out, t)
	}
	return out
}

// wrongTimes are numbers that are no times.
func wrongTimes() []int64 {
	return []int64{math.MinInt64, math.MinInt64 + 1, -1 << 40, -1 << 32, -1001, -1000, -999, -2, -1,
		api.MaxTime + 1, api.MaxTime + 2, api.MaxTime + 224, api.MaxTime + 1000, 2 * api.MaxTime, 1 << 62, math.MaxInt64 - 1, math.MaxInt64}
}

// labelOf is a label that tells these two numbers.
func labelOf(seconds uint64, left uint32) [12]byte {
	var out [12]byte
	binary.BigEndian.PutUint64(out[:8], seconds)
	binary.BigEndian.PutUint32(out[8:], left)
	return out
}

// label is a time's label, as the chapter's words have it.
func label(t int64) [12]byte { return labelOf(base+uint64(t/1000), uint32(t%1000*1000000)) }

// written is a time's label, as it is written.
func written(t *testing.T, n int64) [12]byte {
	t.Helper()
	b, e := stamp.Write(n)
	if e != api.OK {
		t.Fatalf("Write(%d): %v", n, e)
	}
	return b
}

// P9.1: Right.
func TestRight(t *testing.T) {
	for _, n := range times() {
		if !stamp.Right(n) {
			t.Errorf("%d is told to be no time", n)
		}
	}
	for _, n := range wrongTimes() {
		if stamp.Right(n) {
			t.Errorf("%d is told to be a time", n)
		}
	}
}

// P9.1: Write, and the chapter's examples.
func TestWrite(t *testing.T) {
	if b := written(t, 0); b != [12]byte{64, 0, 0, 0, 0, 0, 0, 10, 0, 0, 0, 0} {
		t.Errorf("Write(0): %v", b)
	}
	if b := written(t, 1500); b != [12]byte{64, 0, 0, 0, 0, 0, 0, 11, 29, 205, 101, 0} {
		t.Errorf("Write(1500): %v", b)
	}
	if b := written(t, 999); b != [12]byte{64, 0, 0, 0, 0, 0, 0, 10, 59, 139, 135, 192} {
		t.Errorf("Write(999): %v", b)
	}
	if b := written(t, 246000); b != [12]byte{64, 0, 0, 0, 0, 0, 1, 0, 0, 0, 0, 0} {
		t.Errorf("Write(246000): %v", b)
	}
	for _, n := range times() {
		if b := written(t, n); b != label(n) {
			t.Errorf("Write(%d): %v, want %v", n, b, label(n))
		}
	}
}

// P9.1: what is no time has no label.
func TestWriteOfWrongTimes(t *testing.T) {
	for _, n := range wrongTimes() {
		if b, e := stamp.Write(n); b != ([12]byte{}) || e != api.ErrArg {
			t.Errorf("Write(%d): %v %v", n, b, e)
		}
	}
}

// P9.1: Read.
func TestRead(t *testing.T) {
	for _, n := range times() {
		if got, e := stamp.Read(label(n)); got != n || e != api.OK {
			t.Errorf("Read of %d's label: %d %v", n, got, e)
		}
	}
}

// P9.1: labels that are no time's.
func TestReadOfWrongLabels(t *testing.T) {
	const last = base + api.MaxTime/1000
	for _, c := range []struct {
		seconds uint64
		left    uint32
	}{
		{0, 0}, {1, 0}, {10, 0}, {1 << 62, 0}, {base - 1, 0}, {base - 1, 999000000}, {base - 10, 0}, {base - 1000, 0},
		{base, 1}, {base, 999999}, {base, 1000001}, {base, 1999999}, {base, 500000500}, {base, 998999999}, {base, 999000001}, {base, 999999999},
		{base, 1000000000}, {base, 1001000000}, {base, 2000000000}, {base, 4294000000}, {base, 4294967295}, {base, 1 << 31},
		{last, 777000000}, {last, 778000000}, {last, 999000000}, {last, 776000001}, {last, 776999999},
		{last + 1, 0}, {last + 1, 1000000}, {last + 2, 0}, {base + api.MaxTime, 0}, {base + 1<<41, 0},
		{1<<63 - 1, 0}, {1 << 63, 0}, {1<<63 + base, 0}, {base + 1<<32*1000, 0}, {math.MaxUint64, 0}, {math.MaxUint64, math.MaxUint32}, {math.MaxUint64 - 10, 0},
	} {
		if got, e := stamp.Read(labelOf(c.seconds, c.left)); got != 0 || e != api.ErrForm {
			t.Errorf("Read of %d and %d: %d %v", c.seconds, c.left, got, e)
		}
	}
	if got, e := stamp.Read([12]byte{}); got != 0 || e != api.ErrForm {
		t.Errorf("Read of noughts: %d %v", got, e)
	}
}

// P9.1, P9.4: each digit of a label counts; what is read is written as it was.
func TestEachDigitOfALabel(t *testing.T) {
	for _, n := range times() {
		for i := range 96 {
			b := label(n)
			b[i/8] ^= 1 << (i % 8)
			got, e := stamp.Read(b)
			if e == api.OK && (got == n || !stamp.Right(got) || label(got) != b) || e != api.OK && (got != 0 || e != api.ErrForm) {
				t.Errorf("%d's label with the digit %d turned: %d %v", n, i, got, e)
			}
		}
	}
}

// P9.2: After.
func TestAfter(t *testing.T) {
	for _, c := range []struct {
		a, b [12]byte
		want bool
	}{
		{[12]byte{}, [12]byte{}, false},
		{[12]byte{11: 1}, [12]byte{}, true},
		{[12]byte{}, [12]byte{11: 1}, false},
		{[12]byte{1}, [12]byte{0, 255, 255}, true},
		{[12]byte{0, 255, 255}, [12]byte{1}, false},
		{[12]byte{11: 255}, [12]byte{10: 1}, false},
		{[12]byte{10: 1}, [12]byte{11: 255}, true},
		{[12]byte{128}, [12]byte{127}, true},
		{[12]byte{127}, [12]byte{128}, false},
		{[12]byte{5, 1, 9}, [12]byte{5, 2, 1}, false},
		{[12]byte{5, 2, 1}, [12]byte{5, 1, 9}, true},
		{[12]byte{7, 7, 7, 7, 7, 7, 7, 7, 7, 7, 7, 7}, [12]byte{7, 7, 7, 7, 7, 7, 7, 7, 7, 7, 7, 7}, false},
	} {
		if got := stamp.After(c.a, c.b); got != c.want {
			t.Errorf("After(%v, %v): %v", c.a, c.b, got)
		}
	}
}

// P9.2: the first byte that is unlike counts, at each place, whatever stands behind it.
func TestAfterAtEachPlace(t *testing.T) {
	for i := range 12 {
		for _, behind := range [][2]byte{{0, 0}, {0, 255}, {255, 0}} {
			for _, unlike := range [][2]byte{{0, 1}, {1, 0}, {0, 255}, {255, 0}, {127, 128}, {128, 127}, {9, 9}} {
				a, b := label(1500), label(1500)
				a[i], b[i] = unlike[0], unlike[1]
				for j := i + 1; j < 12; j++ {
					a[j], b[j] = behind[0], behind[1]
				}
				if got, want := stamp.After(a, b), bytes.Compare(a[:], b[:]) > 0; got != want {
					t.Errorf("After(%v, %v): %v", a, b, got)
				}
			}
		}
	}
}

// P9.3: Later.
func TestLater(t *testing.T) {
	for i, a := range times() {
		for j, b := range times() {
			if got := stamp.Later(a, b); got != (i > j) {
				t.Errorf("Later(%d, %d): %v", a, b, got)
			}
		}
		for _, b := range wrongTimes() {
			if stamp.Later(a, b) || stamp.Later(b, a) {
				t.Errorf("%d and %d: one is told to be later", a, b)
			}
		}
	}
	for _, a := range wrongTimes() {
		for _, b := range wrongTimes() {
			if stamp.Later(a, b) {
				t.Errorf("Later(%d, %d)", a, b)
			}
		}
	}
}

// P9.3: Span.
func TestSpan(t *testing.T) {
	for i, from := range times() {
		for j, to := range times() {
			got, e := stamp.Span(from, to)
			if i <= j && (got != to-from || e != api.OK) || i > j && (got != 0 || e != api.ErrArg) {
				t.Errorf("Span(%d, %d): %d %v", from, to, got, e)
			}
		}
	}
	if got, e := stamp.Span(0, api.MaxTime); got != api.MaxTime || e != api.OK {
		t.Errorf("the longest: %d %v", got, e)
	}
}

// P9.3: no span from, to or between what is no time.
func TestSpanOfWrongTimes(t *testing.T) {
	all := append(times(), wrongTimes()...)
	for _, wrong := range wrongTimes() {
		for _, other := range all {
			if got, e := stamp.Span(wrong, other); got != 0 || e != api.ErrArg {
				t.Errorf("Span(%d, %d): %d %v", wrong, other, got, e)
			}
			if got, e := stamp.Span(other, wrong); got != 0 || e != api.ErrArg {
				t.Errorf("Span(%d, %d): %d %v", other, wrong, got, e)
			}
		}
	}
}

// P9.4: labels go there and back, and stand as their times do.
func TestThereAndBack(t *testing.T) {
	all := times()
	for n := int64(0); n < api.MaxTime; n += 2147483647 {
		if got, e := stamp.Read(written(t, n)); got != n || e != api.OK {
			t.Errorf("%d: %d %v", n, got, e)
		}
	}
	for _, a := range all {
		if got, e := stamp.Read(written(t, a)); got != a || e != api.OK {
			t.Errorf("%d: %d %v", a, got, e)
		}
		for _, b := range all {
			if got := stamp.After(written(t, a), written(t, b)); got != stamp.Later(a, b) || got != (a > b) {
				t.Errorf("the labels of %d and %d: %v", a, b, got)
			}
		}
	}
}

// P9.4: of all that may stand in the last four bytes, the first and the last second have one label a time.
func TestOneLabelATime(t *testing.T) {
	for _, seconds := range []uint64{base, base + api.MaxTime/1000} {
		most := uint64(999)
		if seconds != base {
			most = api.MaxTime % 1000
		}
		for left := uint64(0); left < 4294967296-500000; left += 500000 {
			got, e := stamp.Read(labelOf(seconds, uint32(left)))
			right := left%1000000 == 0 && left/1000000 <= most
			if right && (e != api.OK || got != int64((seconds-base)*1000+left/1000000)) || !right && (e != api.ErrForm || got != 0) {
				t.Errorf("%d and %d: %d %v", seconds, left, got, e)
			}
		}
	}
}
