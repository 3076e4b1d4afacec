package frame_test

import (
	"math"
	"testing"

	"touchstone/api"
	"touchstone/frame"
)

// P3.2: the records of all frames, up to where nothing is left.
func TestScan(t *testing.T) {
	wantScan(t, "\x01\x00\x00\x00\x34\xD2\x7C\x96a\x36\x29\xA2\xE2", api.EndClean, "a")
	wantScan(t, "\x00\x00\x00\x00\x98\xBD\x6D\xAE\xC4\xB0\x80\xD2", api.EndClean, "")
	wantScan(t, "\x0C\x00\x00\x00\xB9\x08\x4F\x8Btouchstone\x00\xFF\xB9\x55\x25\x4F", api.EndClean, "touchstone\x00\xFF")
	wantScan(t, framed("a", "b"), api.EndClean, "a", "b")
	wantScan(t, framed("b", "", "a", "a"), api.EndClean, "b", "", "a", "a")
	wantScan(t, framed(framed("a"), "ä\x00\xFF", long(300)), api.EndClean, framed("a"), "ä\x00\xFF", long(300))
	most := long(api.MaxRecord)
	wantScan(t, framed(most), api.EndClean, most)
	wantScan(t, framed("a", most, most[1:]), api.EndClean, "a", most, most[1:])
}

// P3.2: where nothing is left, behind no frame and behind some, the end is clean.
func TestScanNothing(t *testing.T) {
	wantBehind(t, "", api.EndClean)
}

// P3.2: fewer bytes than a head are torn, whichever they are.
func TestScanPieceOfHead(t *testing.T) {
	for _, s := range []string{head(0), head(1), head(api.MaxRecord), head(api.MaxRecord + 1), "\x00\x00\x00\x00\x00\x00\x00\x00", "\xFF\xFF\xFF\xFF\xFF\xFF\xFF\xFF", "no frame"} {
		for n := 1; n < headBytes; n++ {
			wantBehind(t, s[:n], api.EndTorn)
		}
	}
	for c := range 256 {
		wantBehind(t, string([]byte{byte(c)}), api.EndTorn)
	}
}

// P3.2: a right head alone is torn, also that of an empty record, whose body has a sum.
func TestScanHead(t *testing.T) {
	for _, n := range []uint32{0, 1, 2, 255, 256, 4096, api.MaxRecord - 1, api.MaxRecord} {
		wantBehind(t, head(n), api.EndTorn)
	}
}

// P3.2: a right head of more than MaxRecord bytes is broken, whatever stands behind it: nothing, a piece of a body, a right body.
func TestScanHeadOfTooMany(t *testing.T) {
	for _, n := range []uint32{api.MaxRecord + 1, api.MaxRecord + 2, 1 << 16, 1<<16 + 1, 1 << 24, math.MaxInt32, 1 << 31, 1<<31 + 1, math.MaxUint32 - 3, math.MaxUint32} {
		wantBehind(t, head(n), api.EndBroken)
		wantBehind(t, head(n)+"a", api.EndBroken)
		wantBehind(t, head(n)+body("a"), api.EndBroken)
		wantBehind(t, head(n)+framed("a"), api.EndBroken)
	}
	much := long(api.MaxRecord + 1)
	whole := framed(much)
	wantBehind(t, whole, api.EndBroken)
	wantBehind(t, whole[:len(whole)-1], api.EndBroken)
	wantBehind(t, whole+framed("a"), api.EndBroken)
}

// P3.2: a right head and all of its body but one byte, or fewer, are torn; with that byte the frame is whole.
func TestScanPieceOfBody(t *testing.T) {
	for _, record := range []string{"", "a", "abcd", "abcde", long(300)} {
		s := framed(record)
		for n := headBytes; n < len(s); n++ {
			wantBehind(t, s[:n], api.EndTorn)
		}
		wantScan(t, s, api.EndClean, record)
	}
	most := long(api.MaxRecord)
	s := framed(most)
	for _, n := range []int{headBytes + 1, len(s) / 2, len(s) - sumBytes - 1, len(s) - sumBytes, len(s) - 1} {
		wantBehind(t, s[:n], api.EndTorn)
	}
	wantScan(t, s, api.EndClean, most)
}

// P3.2: what a body that is not all there would be, right or not, is not seen: it is torn.
func TestScanPieceOfOtherBody(t *testing.T) {
	wantBehind(t, head(5)+"\x00", api.EndTorn)
	wantBehind(t, head(5)+framed("")[:8], api.EndTorn)
	wantBehind(t, head(300)+framed("a", "b"), api.EndTorn)
	wantBehind(t, head(api.MaxRecord)+long(api.MaxRecord)+"\x00\x00\x00", api.EndTorn)
}

// P3.2: all bytes of a head that are no right one are broken.
func TestScanWrongHead(t *testing.T) {
	zero := "\x00\x00\x00\x00"
	for _, s := range []string{
		zero + zero, "\xFF\xFF\xFF\xFF\xFF\xFF\xFF\xFF", "no frame", // no sum
		number(1) + sum(number(1)),                         // the sum of the length alone
		number(1) + sum(number(1)+"b"),                     // with the mark of a body
		number(1) + sum("h"+number(1)),                     // with its mark ahead
		number(1) + sum("\x01h"),                           // of one byte of the length
		sum(number(1)+"h") + number(1),                     // the sum ahead
		"\x00\x00\x00\x01" + sum("\x00\x00\x00\x01h"),      // the highest byte first
		number(1) + "\x96\x7C\xD2\x34",                     // the sum's highest byte first
		number(2) + head(1)[4:], head(1)[:4] + head(2)[4:], // of another one
		body(number(1)), // what a body of such a record is
	} {
		wantBehind(t, s, api.EndBroken)
		wantBehind(t, s+"\x00", api.EndBroken)
		wantBehind(t, s+body("a"), api.EndBroken)
		wantBehind(t, s+framed("a", "b"), api.EndBroken)
	}
}

// P3.2: behind a right head a body that is all there, and not right, is broken.
func TestScanWrongBody(t *testing.T) {
	for _, s := range []string{
		"a" + sum("a"), "a" + sum("ah"), "a" + sum("ba"), "a" + sum("bb"), "a\x00\x00\x00\x00",
		"a" + sum("a\x00\x00\x00b"), body("b")[:1] + body("a")[1:], sum("ab") + "a", "\x00" + body(""),
	} {
		wantBehind(t, head(1)+s, api.EndBroken)
		wantBehind(t, head(1)+s+"\x00", api.EndBroken)
		wantBehind(t, head(1)+s+framed("a"), api.EndBroken)
	}
	for _, s := range []string{"\x00\x00\x00\x00", sum(""), sum("h"), "abcd"} {
		wantBehind(t, head(0)+s, api.EndBroken)
		wantBehind(t, head(0)+s+framed(""), api.EndBroken)
	}
	most := long(api.MaxRecord)
	wantBehind(t, head(api.MaxRecord)+most+"abcd", api.EndBroken)
	wantBehind(t, head(api.MaxRecord)+"y"+body(most)[1:], api.EndBroken)
}

// P3.2: a head whose record is shorter, or longer, than what stands there.
func TestScanOtherLength(t *testing.T) {
	wantBehind(t, head(2)+body("abc"), api.EndBroken)
	wantBehind(t, head(4)+body("abc"), api.EndTorn)
	wantBehind(t, head(4)+body("abc")+"\x00", api.EndBroken)
	wantBehind(t, head(0)+body("abc"), api.EndBroken)
}

// P3.2: bytes that are no frame stand behind frames that are whole, and end them: frames behind are not looked for.
func TestScanNoFrames(t *testing.T) {
	wantBehind(t, "these are no frames", api.EndBroken)
	wantBehind(t, "\x00"+framed("a", "b"), api.EndBroken)
	wantBehind(t, "no frame"+framed("a", "b"), api.EndBroken)
	wantBehind(t, framed("c")[1:]+framed("a"), api.EndBroken)
	wantBehind(t, framed("c")[headBytes:]+framed("a"), api.EndBroken)
	wantBehind(t, head(1)+framed("a"), api.EndBroken)
	wantBehind(t, body("a"), api.EndTorn)
	wantBehind(t, body("abcd"), api.EndBroken)
}

// P3.2: many frames, and a record whose bytes are frames, are told as they are.
func TestScanMany(t *testing.T) {
	var l []string
	for i := range 5000 {
		l = append(l, long(i%7))
	}
	s := framed(l...)
	wantScan(t, s, api.EndClean, l...)
	wantScan(t, framed(s[:1000]), api.EndClean, s[:1000])
}

// P3.2: two looks at the same bytes tell the same, and share no list.
func TestScanAgain(t *testing.T) {
	s := framed("a", "b") + "c"
	l, _, _ := frame.Scan(s)
	l[0] = "z"
	_ = append(l[:1], "y")
	wantScan(t, s, api.EndTorn, "a", "b")
}
