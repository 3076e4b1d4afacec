package codec_test

import (
	"math"
	"math/big"
	"math/rand/v2"
	"strings"
	"testing"

	"touchstone/codec"
)

// numbers have their bytes beside them.
var numbers = []struct {
	x     uint64
	bytes string
}{
	{0, "\x00"},
	{1, "\x01"},
	{127, "\x7F"},
	{128, "\x80\x01"},
	{129, "\x81\x01"},
	{255, "\xFF\x01"},
	{256, "\x80\x02"},
	{300, "\xAC\x02"},
	{1<<14 - 1, "\xFF\x7F"},
	{1 << 14, "\x80\x80\x01"},
	{1<<31 - 1, "\xFF\xFF\xFF\xFF\x07"},
	{1 << 31, "\x80\x80\x80\x80\x08"},
	{1<<32 - 1, "\xFF\xFF\xFF\xFF\x0F"},
	{1 << 32, "\x80\x80\x80\x80\x10"},
	{1<<35 - 1, "\xFF\xFF\xFF\xFF\x7F"},
	{1 << 35, "\x80\x80\x80\x80\x80\x01"},
	{1<<56 - 1, "\xFF\xFF\xFF\xFF\xFF\xFF\xFF\x7F"},
	{1 << 56, "\x80\x80\x80\x80\x80\x80\x80\x80\x01"},
	{1<<63 - 1, "\xFF\xFF\xFF\xFF\xFF\xFF\xFF\xFF\x7F"},
	{1 << 63, "\x80\x80\x80\x80\x80\x80\x80\x80\x80\x01"},
	{1<<63 + 1, "\x81\x80\x80\x80\x80\x80\x80\x80\x80\x01"},
	{1<<64 - 1, "\xFF\xFF\xFF\xFF\xFF\xFF\xFF\xFF\xFF\x01"},
}

// someNumber has any count of bits, and is often close to where one more byte is needed.
func someNumber(d *rand.Rand) uint64 {
	x := d.Uint64() >> d.IntN(64)
	if d.IntN(3) == 0 {
		x = 1<<d.IntN(64) + uint64(d.IntN(3)) - 1
	}
	return x
}

// wantNumber asks for the number at the beginning of s, and how many bytes it has.
func wantNumber(t *testing.T, s string, x uint64, n int) {
	t.Helper()
	if gx, gn := codec.GetUvarint(s); gx != x || gn != n {
		t.Fatalf("GetUvarint(% X): %d, %d, not %d, %d", s, gx, gn, x, n)
	}
}

// P2.1: the bytes of ordinary numbers, and of those at the edges.
func TestUvarint(t *testing.T) {
	for _, n := range numbers {
		if got := codec.Uvarint(n.x); got != n.bytes {
			t.Errorf("Uvarint(%d): % X, not % X", n.x, got, n.bytes)
		}
	}
}

// P2.1: each number's bytes are its digits to the base of 128, the lowest first.
func TestUvarintDigits(t *testing.T) {
	d := rand.New(rand.NewPCG(2, 1))
	for range 20000 {
		x := someNumber(d)
		wanted := string(rune(x % 128))
		for rest := x / 128; rest > 0; rest /= 128 {
			b := []byte(wanted)
			b[len(b)-1] += 128
			wanted = string(append(b, byte(rest%128)))
		}
		if got := codec.Uvarint(x); got != wanted {
			t.Fatalf("Uvarint(%d): % X, not % X", x, got, wanted)
		}
	}
}

// P2.1, P2.5: the number at the beginning, whatever comes behind it.
func TestGetUvarint(t *testing.T) {
	for _, n := range numbers {
		for _, behind := range []string{"", "\x00", "\x01", "\x7F", "\x80", "\xFF", "\x80\x00", n.bytes, strings.Repeat("\xFF", 40)} {
			wantNumber(t, n.bytes+behind, n.x, len(n.bytes))
		}
	}
}

// P2.1: bytes that are no number's, whatever comes behind them.
func TestGetUvarintOfNone(t *testing.T) {
	wantNumber(t, "", 0, 0)
	for n := range 30 {
		// They don't end, or, where there are more than nine, have too many bytes.
		wantNumber(t, strings.Repeat("\x80", n+1), 0, 0)
		wantNumber(t, strings.Repeat("\xFF", n+1), 0, 0)
	}
	for n := 1; n < 30; n++ {
		high, low := strings.Repeat("\xFF", n), strings.Repeat("\x80", n)
		for _, behind := range []string{"", "\x00", "\x01", "\x80"} {
			wantNumber(t, high+"\x00"+behind, 0, 0)
			wantNumber(t, low+"\x00"+behind, 0, 0)
			wantNumber(t, "\x81"+low+"\x00"+behind, 0, 0)
			if n > 9 {
				wantNumber(t, high+"\x01"+behind, 0, 0)
				wantNumber(t, low+"\x01"+behind, 0, 0)
				wantNumber(t, low+"\x7F"+behind, 0, 0)
			}
		}
	}
}

// P2.1: the tenth byte has one bit; with any other there are more than 64.
func TestGetUvarintTenth(t *testing.T) {
	for c := range 256 {
		for _, ahead := range []string{strings.Repeat("\x80", 9), strings.Repeat("\xFF", 9)} {
			for _, behind := range []string{"", "\x00", "\x01"} {
				s := ahead + string([]byte{byte(c)}) + behind
				switch {
				case c != 1:
					wantNumber(t, s, 0, 0)
				case ahead[0] == 0x80:
					wantNumber(t, s, 1<<63, 10)
				default:
					wantNumber(t, s, math.MaxUint64, 10)
				}
			}
		}
	}
}

// told is what the chapter says of the number at the beginning of some bytes: the one whose bytes they are.
func told(s string) (uint64, int) {
	sum := new(big.Int)
	for i := range len(s) {
		digit := big.NewInt(int64(s[i] % 128))
		sum.Add(sum, digit.Lsh(digit, uint(7*i)))
		if s[i] >= 128 {
			continue
		}
		if i > 0 && s[i] == 0 || !sum.IsUint64() {
			return 0, 0
		}
		return sum.Uint64(), i + 1
	}
	return 0, 0
}

// P2.1: all texts of up to two bytes, and many longer ones, are read as told.
func TestGetUvarintOfAny(t *testing.T) {
	ask := func(s string) {
		x, n := told(s)
		wantNumber(t, s, x, n)
	}
	for a := range 256 {
		ask(string([]byte{byte(a)}))
		for b := range 256 {
			ask(string([]byte{byte(a), byte(b)}))
		}
	}
	d := rand.New(rand.NewPCG(2, 2))
	bytes := "\x00\x01\x02\x7F\x80\x81\xC0\xFF\x80\xFF\x80\xFF"
	for range 100000 {
		b := make([]byte, d.IntN(14))
		for i := range b {
			b[i] = bytes[d.IntN(len(bytes))]
			if d.IntN(8) == 0 {
				b[i] = byte(d.IntN(256))
			} else if i < 9 {
				b[i] |= byte(d.IntN(8)+7) / 8 * 0x80
			}
		}
		ask(string(b))
	}
}

// P2.2: zigzags of ordinary numbers, and of those at the edges.
func TestZigzag(t *testing.T) {
	for _, z := range []struct {
		n int64
		x uint64
	}{
		{0, 0}, {-1, 1}, {1, 2}, {-2, 3}, {2, 4}, {63, 126}, {-64, 127}, {64, 128}, {-65, 129},
		{math.MaxInt32, 1<<32 - 2}, {math.MinInt32, 1<<32 - 1}, {math.MaxInt32 + 1, 1 << 32},
		{1 << 62, 1 << 63}, {-1<<62 - 1, 1<<63 + 1}, {-1 << 62, 1<<63 - 1},
		{math.MaxInt64, math.MaxUint64 - 1}, {math.MinInt64 + 1, math.MaxUint64 - 2}, {math.MinInt64, math.MaxUint64},
	} {
		if got := codec.Zig(z.n); got != z.x {
			t.Errorf("Zig(%d): %d, not %d", z.n, got, z.x)
		}
		if got := codec.Zag(z.x); got != z.n {
			t.Errorf("Zag(%d): %d, not %d", z.x, got, z.n)
		}
	}
}

// P2.2, P2.5: zigzags are 2n, or -2n - 1, and lead back.
func TestZigzagBack(t *testing.T) {
	d := rand.New(rand.NewPCG(2, 3))
	for range 20000 {
		x := someNumber(d)
		n := int64(x)
		wanted := new(big.Int).Mul(big.NewInt(n), big.NewInt(2))
		if n < 0 {
			wanted.Neg(wanted).Sub(wanted, big.NewInt(1))
		}
		if got := codec.Zig(n); got != wanted.Uint64() || codec.Zag(got) != n {
			t.Fatalf("Zig(%d): %d, not %d; back: %d", n, got, wanted, codec.Zag(got))
		}
		if got := codec.Zig(codec.Zag(x)); got != x {
			t.Fatalf("Zig of Zag(%d): %d", x, got)
		}
	}
}

// P2.2: four bytes, the lowest first.
func TestFixed(t *testing.T) {
	for _, f := range []struct {
		x     uint32
		bytes string
	}{
		{0, "\x00\x00\x00\x00"},
		{1, "\x01\x00\x00\x00"},
		{255, "\xFF\x00\x00\x00"},
		{256, "\x00\x01\x00\x00"},
		{0x01020304, "\x04\x03\x02\x01"},
		{0xE3069283, "\x83\x92\x06\xE3"},
		{1 << 31, "\x00\x00\x00\x80"},
		{math.MaxUint32, "\xFF\xFF\xFF\xFF"},
	} {
		if got := codec.Fixed(f.x); got != f.bytes {
			t.Errorf("Fixed(%#x): % X, not % X", f.x, got, f.bytes)
		}
		for _, behind := range []string{"", "\x00", "\xFF\xFF\xFF\xFF", "behind it"} {
			if got, ok := codec.GetFixed(f.bytes + behind); got != f.x || !ok {
				t.Errorf("GetFixed(% X): %#x, %v, not %#x", f.bytes+behind, got, ok, f.x)
			}
		}
	}
}

// P2.5: GetFixed of Fixed leads back.
func TestFixedBack(t *testing.T) {
	d := rand.New(rand.NewPCG(2, 4))
	for range 20000 {
		x := uint32(someNumber(d))
		if got, ok := codec.GetFixed(codec.Fixed(x)); got != x || !ok {
			t.Fatalf("GetFixed of Fixed(%d): %d, %v", x, got, ok)
		}
	}
}

// P2.2: of fewer than four bytes there is no number.
func TestGetFixedOfNone(t *testing.T) {
	for _, s := range []string{"", "\x00", "\x01", "\xFF\xFF", "\x00\x00\x00", "\x01\x02\x03", "\xFF\xFF\xFF"} {
		if got, ok := codec.GetFixed(s); got != 0 || ok {
			t.Errorf("GetFixed(% X): %d, %v", s, got, ok)
		}
	}
}
