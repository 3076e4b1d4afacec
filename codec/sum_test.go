package codec_test

import (
	"hash/crc32"
	"math/rand/v2"
	"strings"
	"testing"

	"touchstone/codec"
)

func wantSum(t *testing.T, sum uint32, parts ...string) {
	t.Helper()
	if got := codec.Sum(parts...); got != sum {
		t.Fatalf("Sum(%.200q): %#x, not %#x", parts, got, sum)
	}
}

func someText(d *rand.Rand, most int) string {
	b := make([]byte, d.IntN(most+1))
	for i := range b {
		b[i] = byte(d.Uint32())
	}
	return string(b)
}

// P2.2: sums that are known.
func TestSum(t *testing.T) {
	wantSum(t, 0xE3069283, "123456789")
	wantSum(t, 0xC1D04330, "a")
	wantSum(t, 0x527D5351, "\x00")
	wantSum(t, 0xFF000000, "\xFF")
	wantSum(t, 0x8A9136AA, strings.Repeat("\x00", 32))
	wantSum(t, 0x62A8AB43, strings.Repeat("\xFF", 32))
}

// P2.2: of no parts, and of parts in which there is nothing, all ones are turned.
func TestSumOfNothing(t *testing.T) {
	wantSum(t, 0)
	wantSum(t, 0, "")
	wantSum(t, 0, "", "", "")
	wantSum(t, 0, []string{}...)
	wantSum(t, 0, nil...)
}

// P2.2: how the bytes are cut into parts changes nothing; their order does.
func TestSumOfParts(t *testing.T) {
	s := "123456789"
	for i := range len(s) + 1 {
		wantSum(t, 0xE3069283, s[:i], s[i:])
		wantSum(t, 0xE3069283, "", s[:i], "", s[i:], "")
		for j := i; j <= len(s); j++ {
			wantSum(t, 0xE3069283, s[:i], s[i:j], s[j:])
		}
	}
	wantSum(t, 0xE3069283, strings.Split(s, "")...)
	if codec.Sum("123", "456") == codec.Sum("456", "123") {
		t.Error("parts are taken in another order")
	}
}

// byBits is what the chapter says of a sum, bit by bit.
func byBits(s string) uint32 {
	x := uint32(0xFFFFFFFF)
	for i := range len(s) {
		x ^= uint32(s[i])
		for range 8 {
			out := x % 2
			x /= 2
			if out == 1 {
				x ^= 0x82F63B78
			}
		}
	}
	return x ^ 0xFFFFFFFF
}

// P2.2: each byte, at each place, counts as the chapter says.
func TestSumByBits(t *testing.T) {
	for c := range 256 {
		for place := range 6 {
			b := []byte("......")
			b[place] = byte(c)
			wantSum(t, byBits(string(b)), string(b))
		}
		one := string([]byte{byte(c)})
		wantSum(t, byBits(one), one)
	}
}

// P2.2: sums of texts of all lengths, cut at random.
func TestSumOfAny(t *testing.T) {
	d := rand.New(rand.NewPCG(2, 5))
	table := crc32.MakeTable(crc32.Castagnoli)
	for range 2000 {
		s := someText(d, 300)
		wanted := crc32.Checksum([]byte(s), table)
		var parts []string
		for rest := s; rest != ""; {
			n := d.IntN(len(rest) + 1)
			parts, rest = append(parts, rest[:n]), rest[n:]
		}
		wantSum(t, wanted, s)
		wantSum(t, wanted, parts...)
	}
	s := strings.Repeat("touchstone\x00", 100000)
	wantSum(t, crc32.Checksum([]byte(s), table), s)
}

// P2.7: texts that differ in one to four bytes that stand together have other sums.
func TestTurned(t *testing.T) {
	d := rand.New(rand.NewPCG(2, 6))
	for range 50000 {
		a := []byte(someText(d, 60) + "....")
		b := []byte(string(a))
		n := 1 + d.IntN(4)
		at := d.IntN(len(a) - n + 1)
		for i := range n {
			b[at+i] ^= byte(d.IntN(256) & d.IntN(256))
		}
		if string(a) != string(b) && codec.Sum(string(a)) == codec.Sum(string(b)) {
			t.Fatalf("% X and % X have the same sum", a, b)
		}
	}
}

// P2.7: every other byte at every place, and every other pair of bytes at one place, makes another sum.
func TestTurnedAll(t *testing.T) {
	s := "a text of some bytes \x00\xFF"
	sum := codec.Sum(s)
	for at := range len(s) {
		for by := 1; by < 256; by++ {
			b := []byte(s)
			b[at] ^= byte(by)
			if codec.Sum(string(b)) == sum {
				t.Fatalf("% X has the sum of % X", b, s)
			}
		}
	}
	for by := 1; by < 1<<16; by++ {
		b := []byte(s)
		b[7] ^= byte(by)
		b[8] ^= byte(by >> 8)
		if codec.Sum(string(b)) == sum {
			t.Fatalf("% X has the sum of % X", b, s)
		}
	}
}
