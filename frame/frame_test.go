package frame_test

import (
	"bytes"
	"encoding/binary"
	"hash/crc32"
	"math/rand"
	"slices"
	"testing"

	"apportion/api"
	"apportion/frame"
)

// most is how many bytes a record may have.
const most = 65536

// defined is the checksum of b, bit by bit, as the document defines it.
func defined(b []byte) uint32 {
	n := uint32(0xFFFFFFFF)
	for _, one := range b {
		for range 8 {
			if n%2 != uint32(one%2) {
				n = n/2 ^ 3988292384
			} else {
				n /= 2
			}
			one /= 2
		}
	}
	return 0xFFFFFFFF - n
}

// framed is the frame of rec, by packages that are another one's work.
func framed(rec []byte) []byte {
	length := uint32(len(rec))
	b := binary.LittleEndian.AppendUint32(nil, length)
	b = binary.LittleEndian.AppendUint32(b, 0xFFFFFFFF-length)
	b = append(b, rec...)
	return binary.LittleEndian.AppendUint32(b, crc32.ChecksumIEEE(rec))
}

// head is a length, and other four bytes behind it.
func head(length, inverted uint32) []byte {
	b := binary.LittleEndian.AppendUint32(nil, length)
	return binary.LittleEndian.AppendUint32(b, inverted)
}

// scanned is what Scan ought to answer.
func scanned(b []byte) ([][]byte, int, int) {
	var recs [][]byte
	at := 0
	for at < len(b) {
		left := len(b) - at
		if left < 8 {
			return recs, at, api.Torn
		}
		length := binary.LittleEndian.Uint32(b[at:])
		inverted := binary.LittleEndian.Uint32(b[at+4:])
		if uint64(length)+uint64(inverted) != 0xFFFFFFFF || length&inverted != 0 || length > most {
			return recs, at, api.Bad
		}
		if left < int(length)+12 {
			return recs, at, api.Torn
		}
		rec := b[at+8 : at+8+int(length)]
		if binary.LittleEndian.Uint32(b[at+8+int(length):]) != crc32.ChecksumIEEE(rec) {
			return recs, at, api.Bad
		}
		recs = append(recs, rec)
		at += int(length) + 12
	}
	return recs, at, api.Whole
}

// random returns so many random bytes.
func random(r *rand.Rand, n int) []byte {
	b := make([]byte, n)
	r.Read(b)
	return b
}

// records are some records: none, of equal bytes, such as look like frames, and of as many bytes as there may be.
func records(r *rand.Rand) [][]byte {
	l := [][]byte{nil, {}, {0}, {255}, {1, 2}, make([]byte, 7), make([]byte, 8), bytes.Repeat([]byte{255}, 9)}
	l = append(l, framed(nil), framed([]byte{7, 8}), framed([]byte{7, 8})[:9], head(3, 0))
	for _, n := range []int{3, 12, 255, 256, 257, most - 1, most} {
		l = append(l, random(r, n))
	}
	return append(l, make([]byte, most))
}

func equal(a, b [][]byte) bool {
	return slices.EqualFunc(a, b, bytes.Equal)
}

// hidden returns b with other bytes in the capacity behind it, which nothing ought to read.
func hidden(b, behind []byte) []byte {
	return slices.Concat(b, behind)[:len(b)]
}

func TestSumExamples(t *testing.T) {
	for _, x := range []struct {
		b    []byte
		want uint32
	}{
		{nil, 0},
		{[]byte{}, 0},
		{[]byte("123456789"), 3421780262},
		{[]byte("a"), 0xE8B7BE43},
		{[]byte("abc"), 0x352441C2},
		{[]byte{0}, 0xD202EF8D},
		{[]byte{255}, 0xFF000000},
		{[]byte{0, 0, 0, 0}, 0x2144DF1C},
		{[]byte{255, 255, 255, 255}, 0xFFFFFFFF},
	} {
		if got := frame.Sum(hidden(x.b, []byte{1, 2, 3})); got != x.want {
			t.Errorf("Sum(%v) = %d, not %d", x.b, got, x.want)
		}
	}
}

func checkSum(t *testing.T, b []byte) {
	t.Helper()
	if got, want := frame.Sum(b), defined(b); got != want {
		t.Fatalf("Sum of %d bytes, %v .., = %d, not %d", len(b), b[:min(len(b), 9)], got, want)
	}
}

func TestSumOfAllShortBytes(t *testing.T) {
	for first := range 256 {
		checkSum(t, []byte{byte(first)})
		checkSum(t, []byte{0, 0, 0, 0, byte(first)})
		for second := range 256 {
			checkSum(t, []byte{byte(first), byte(second)})
		}
	}
}

// TestSumOfAnyBytes sums more bytes than a record may have, too.
func TestSumOfAnyBytes(t *testing.T) {
	r := rand.New(rand.NewSource(6))
	for n := range 500 {
		checkSum(t, random(r, n))
		checkSum(t, make([]byte, n))
	}
	for _, n := range []int{most - 1, most, most + 1, 300000} {
		checkSum(t, random(r, n))
		checkSum(t, make([]byte, n))
	}
}

func TestPutExamples(t *testing.T) {
	for _, x := range []struct{ rec, want []byte }{
		{nil, []byte{0, 0, 0, 0, 255, 255, 255, 255, 0, 0, 0, 0}},
		{[]byte{}, []byte{0, 0, 0, 0, 255, 255, 255, 255, 0, 0, 0, 0}},
		{[]byte{0}, []byte{1, 0, 0, 0, 254, 255, 255, 255, 0, 0x8D, 0xEF, 0x02, 0xD2}},
		{[]byte("123456789"), append([]byte{9, 0, 0, 0, 246, 255, 255, 255}, "123456789\x26\x39\xF4\xCB"...)},
	} {
		if got, e := frame.Put(hidden(x.rec, []byte{1, 2, 3})); e != api.OK || !bytes.Equal(got, x.want) {
			t.Errorf("Put(%v) = %v, %v, not %v", x.rec, got, e, x.want)
		}
	}
}

func TestPut(t *testing.T) {
	r := rand.New(rand.NewSource(66))
	l := records(r)
	for n := range 600 {
		l = append(l, random(r, n))
	}
	for _, rec := range l {
		if got, e := frame.Put(rec); e != api.OK || !bytes.Equal(got, framed(rec)) {
			t.Errorf("Put of %d bytes = %d bytes, %v", len(rec), len(got), e)
		}
	}
}

func TestPutRefusesLongRecords(t *testing.T) {
	for _, n := range []int{most + 1, most + 2, 2 * most, 3*most + 7} {
		if got, e := frame.Put(make([]byte, n)); e != api.ErrLong || len(got) != 0 {
			t.Errorf("Put of %d bytes = %d bytes, %v", n, len(got), e)
		}
	}
	// What counts is how many bytes a record has, not how many it has room for.
	if got, e := frame.Put(make([]byte, most, 2*most)); e != api.OK || len(got) != most+12 {
		t.Errorf("Put of %d bytes = %d bytes, %v", most, len(got), e)
	}
}

func checkScan(t *testing.T, b []byte, wantRecs [][]byte, wantSize, wantState int) {
	t.Helper()
	if recs, size, state := frame.Scan(b); !equal(recs, wantRecs) || size != wantSize || state != wantState {
		t.Fatalf("Scan of %d bytes, %v .., = %d records, %d, %d, not %d, %d, %d", len(b), b[:min(len(b), 40)], len(recs), size, state, len(wantRecs), wantSize, wantState)
	}
}

func TestScanExamples(t *testing.T) {
	empty := []byte{0, 0, 0, 0, 255, 255, 255, 255, 0, 0, 0, 0}
	checkScan(t, nil, nil, 0, api.Whole)
	checkScan(t, []byte{}, nil, 0, api.Whole)
	checkScan(t, empty, [][]byte{{}}, 12, api.Whole)
	checkScan(t, slices.Concat(empty, empty[:7]), [][]byte{{}}, 12, api.Torn)
	checkScan(t, []byte{0, 0, 0, 0, 255, 255, 255, 255, 0, 0, 0, 1}, nil, 0, api.Bad)
	checkScan(t, []byte{1, 0, 0, 0, 0, 0, 0, 0}, nil, 0, api.Bad)
}

// TestScanOfFewBytes: fewer than eight bytes are torn, whatever they are.
func TestScanOfFewBytes(t *testing.T) {
	r := rand.New(rand.NewSource(666))
	ahead := framed([]byte{5})
	for n := 1; n < 8; n++ {
		for _, rest := range [][]byte{make([]byte, n), bytes.Repeat([]byte{255}, n), random(r, n)} {
			checkScan(t, hidden(rest, framed(nil)), nil, 0, api.Torn)
			checkScan(t, slices.Concat(ahead, rest), [][]byte{{5}}, len(ahead), api.Torn)
		}
	}
}

// TestScanOfHeads is about the eight bytes ahead of a record, with nothing, too little, enough and too much behind them.
func TestScanOfHeads(t *testing.T) {
	for _, x := range []struct {
		head []byte
		room int // how many bytes have to be behind it, or else it is torn; -1: it is bad
	}{
		{head(0, 0xFFFFFFFF), 4},
		{head(1, 0xFFFFFFFE), 5},
		{head(0x100, 0xFFFFFEFF), 0x104},
		{head(most-1, 0xFFFF0000), most + 3},
		{head(most, 0xFFFEFFFF), most + 4},
		{head(most+1, 0xFFFEFFFE), -1},
		{head(most+2, 0xFFFEFFFD), -1},
		{head(2*most, 0xFFFDFFFF), -1},
		{head(1<<24, 0xFEFFFFFF), -1},
		{head(0x7FFFFFFF, 0x80000000), -1},
		{head(0x80000000, 0x7FFFFFFF), -1},
		{head(0xFFFFFFF4, 11), -1},
		{head(0xFFFFFFF8, 7), -1},
		{head(0xFFFFFFFF, 0), -1},
		{head(0, 0), -1},
		{head(1, 1), -1},
		{head(1, 0), -1},
		{head(0xFFFFFFFF, 0xFFFFFFFF), -1},
		{head(most, most), -1},
		{head(0, 0xFFFFFF00), -1},
		{[]byte{0, 0, 0, 1, 255, 255, 255, 254}, -1}, // the highest byte first
	} {
		for _, room := range []int{0, 1, 3, 4, 5, most + 3, most + 4, most + 100} {
			want := api.Bad
			if room < x.room {
				want = api.Torn
			}
			// Bytes of 170 are the checksum of none of these records.
			rest := append(slices.Clone(x.head), bytes.Repeat([]byte{170}, room)...)
			checkScan(t, rest, nil, 0, want)
			checkScan(t, append(framed([]byte{5, 6}), rest...), [][]byte{{5, 6}}, 14, want)
		}
	}
}

// TestScanOfWrongHeads changes each bit ahead of a record: then it is bad, even if it is cut off behind.
func TestScanOfWrongHeads(t *testing.T) {
	for _, n := range []int{0, 1, 9, 300, most} {
		b := framed(make([]byte, n))
		for bit := range 64 {
			b[bit/8] ^= 1 << (bit % 8)
			checkScan(t, b, nil, 0, api.Bad)
			checkScan(t, b[:8], nil, 0, api.Bad)
			b[bit/8] ^= 1 << (bit % 8)
		}
	}
}

// TestScanOfWrongChecksums changes each bit behind a record.
func TestScanOfWrongChecksums(t *testing.T) {
	r := rand.New(rand.NewSource(6666))
	for _, rec := range records(r) {
		b := framed(rec)
		for bit := range 32 {
			at := len(b) - 4 + bit/8
			b[at] ^= 1 << (bit % 8)
			checkScan(t, b, nil, 0, api.Bad)
			checkScan(t, b[:len(b)-1], nil, 0, api.Torn)
			b[at] ^= 1 << (bit % 8)
		}
		slices.Reverse(b[len(b)-4:])
		if crc := b[len(b)-4:]; crc[0] != crc[3] || crc[1] != crc[2] {
			checkScan(t, b, nil, 0, api.Bad)
		}
	}
}

// TestScanEndsAtBadFrames: nothing is looked for behind a frame that is bad, and what is ahead of it stays.
func TestScanEndsAtBadFrames(t *testing.T) {
	bad := framed([]byte{9, 9})
	bad[8]++
	good, last := framed([]byte{1}), framed([]byte{2})
	checkScan(t, slices.Concat(good, bad, last), [][]byte{{1}}, len(good), api.Bad)
	checkScan(t, slices.Concat(good, last, bad), [][]byte{{1}, {2}}, len(good)+len(last), api.Bad)
	checkScan(t, slices.Concat(bad, good), nil, 0, api.Bad)
	checkScan(t, slices.Concat(good, make([]byte, 20), last), [][]byte{{1}}, len(good), api.Bad)
	checkScan(t, slices.Concat(good, []byte{0}, last), [][]byte{{1}}, len(good), api.Bad)
}

// putAll returns the frames of recs, and where each one ends.
func putAll(t *testing.T, recs [][]byte) ([]byte, []int) {
	t.Helper()
	var b []byte
	ends := []int{0}
	for _, rec := range recs {
		one, e := frame.Put(rec)
		if e != api.OK {
			t.Fatalf("Put of %d bytes: %v", len(rec), e)
		}
		b = append(b, one...)
		ends = append(ends, len(b))
	}
	return b, ends
}

// checkCut scans what is left of the frames of recs if they are cut off.
func checkCut(t *testing.T, recs [][]byte, b []byte, ends []int, cut int) {
	t.Helper()
	many := len(ends) - 1
	for ends[many] > cut {
		many--
	}
	want := api.Torn
	if ends[many] == cut {
		want = api.Whole
	}
	// Neither what was cut off nor another frame may be read in the capacity behind.
	checkScan(t, b[:cut], recs[:many], ends[many], want)
	checkScan(t, hidden(b[:cut], framed(nil)), recs[:many], ends[many], want)
}

func TestFramesCutOffAnywhere(t *testing.T) {
	r := rand.New(rand.NewSource(60))
	for range 60 {
		recs := make([][]byte, r.Intn(7))
		for i := range recs {
			recs[i] = random(r, r.Intn(30)*r.Intn(2))
		}
		b, ends := putAll(t, recs)
		for cut := range len(b) + 1 {
			checkCut(t, recs, b, ends, cut)
		}
	}
}

func TestLongFramesCutOff(t *testing.T) {
	r := rand.New(rand.NewSource(61))
	recs := records(r)
	b, ends := putAll(t, recs)
	for i, end := range ends {
		for cut := max(end-20, 0); cut <= min(end+20, len(b)); cut++ {
			checkCut(t, recs, b, ends, cut)
		}
		if i > 0 {
			checkCut(t, recs, b, ends, (ends[i-1]+end)/2)
		}
	}
}

// TestManyFrames fills a file with the least records there are.
func TestManyFrames(t *testing.T) {
	recs := make([][]byte, (1<<20)/12)
	b, ends := putAll(t, recs)
	checkCut(t, recs, b, ends, len(b))
	checkCut(t, recs, b, ends, len(b)-1)
}

// turn turns the bits of pattern in b, from a bit on; those behind b are dropped.
func turn(b []byte, from int, pattern uint32) {
	for bit := from; pattern != 0 && bit < 8*len(b); bit++ {
		if pattern&1 != 0 {
			b[bit/8] ^= 1 << (bit % 8)
		}
		pattern >>= 1
	}
}

// checkTurned turns bits of a record, from a bit on, within its frame, and turns them back.
func checkTurned(t *testing.T, b, rec []byte, from int, pattern uint32) {
	t.Helper()
	turn(rec, from, pattern)
	checkScan(t, b, nil, 0, api.Bad)
	turn(rec, from, pattern)
}

// TestTurnedBitsAreBad turns bits within 32 successive ones of a record.
func TestTurnedBitsAreBad(t *testing.T) {
	r := rand.New(rand.NewSource(62))
	for _, n := range []int{1, 2, 3, 4, 5, 8, 13, 40} {
		b := framed(random(r, n))
		rec := b[8 : 8+n]
		for from := range 8 * n {
			for pattern := uint32(1); pattern < 64; pattern += 2 {
				checkTurned(t, b, rec, from, pattern)
			}
			for range 40 {
				checkTurned(t, b, rec, from, r.Uint32()|1)
				checkTurned(t, b, rec, from, 1<<31|1)
				checkTurned(t, b, rec, from, 1<<31|r.Uint32()&r.Uint32()|1)
			}
		}
	}
	b := framed(random(r, most))
	rec := b[8 : 8+most]
	for range 300 {
		checkTurned(t, b, rec, r.Intn(8*most), r.Uint32()|1)
	}
	checkTurned(t, b, rec, 0, 1)
	checkTurned(t, b, rec, 8*most-1, 1)
}

// TestTurnedBitsBehindOtherFrames: the records ahead of the one whose bits were turned stay, and none behind it is read.
func TestTurnedBitsBehindOtherFrames(t *testing.T) {
	r := rand.New(rand.NewSource(63))
	for range 2000 {
		recs := make([][]byte, 5)
		for i := range recs {
			recs[i] = random(r, 1+r.Intn(20))
		}
		b, ends := putAll(t, recs)
		i := r.Intn(len(recs))
		turn(b[ends[i]+8:ends[i+1]-4], r.Intn(8*len(recs[i])), r.Uint32()|1)
		checkScan(t, b, recs[:i], ends[i], api.Bad)
	}
}

// spoiled returns some frames, of which anything may have been changed.
func spoiled(r *rand.Rand) []byte {
	var b []byte
	for range r.Intn(5) {
		switch r.Intn(12) {
		case 0:
			b = append(b, random(r, r.Intn(20))...)
		case 1:
			length := uint32(r.Intn(70000))
			b = append(b, head(length, ^length)...)
		default:
			b = append(b, framed(random(r, r.Intn(20)*r.Intn(2)))...)
		}
	}
	if len(b) > 0 && r.Intn(2) == 0 {
		b[r.Intn(len(b))] ^= 1 << r.Intn(8)
	}
	return b[:len(b)-r.Intn(min(len(b), 16)+1)]
}

// TestScanOfAnyBytes holds Scan against what it ought to answer, and what it read against what Put writes.
func TestScanOfAnyBytes(t *testing.T) {
	r := rand.New(rand.NewSource(64))
	met := map[int]int{}
	for range 100000 {
		b := spoiled(r)
		wantRecs, wantSize, wantState := scanned(b)
		checkScan(t, b, wantRecs, wantSize, wantState)
		met[wantState]++
		recs, size, _ := frame.Scan(b)
		if again, _ := putAll(t, recs); !bytes.Equal(again, b[:size]) {
			t.Fatalf("the records of %v are written as %v", b[:size], again)
		}
	}
	for _, state := range []int{api.Whole, api.Torn, api.Bad} {
		if met[state] < 1000 {
			t.Errorf("state %d was met %d times", state, met[state])
		}
	}
}

// fill changes all bytes of b, and of its spare capacity.
func fill(b []byte, to byte) {
	b = b[:cap(b)]
	for i := range b {
		b[i] = to
	}
}

func TestPutReturnsNewMemory(t *testing.T) {
	for n := range 100 {
		rec := hidden(bytes.Repeat([]byte{3}, n), bytes.Repeat([]byte{3}, 40))
		got, _ := frame.Put(rec)
		want := framed(bytes.Repeat([]byte{3}, n))
		fill(rec, 4)
		if !bytes.Equal(got, want) {
			t.Fatalf("Put of %d bytes keeps them", n)
		}
		fill(rec, 3)
		fill(got, 4)
		if bytes.IndexByte(rec[:cap(rec)], 4) >= 0 {
			t.Fatalf("Put of %d bytes returns them", n)
		}
	}
}

func TestSumAndScanChangeNothing(t *testing.T) {
	r := rand.New(rand.NewSource(65))
	for range 1000 {
		b := hidden(spoiled(r), bytes.Repeat([]byte{3}, 40))
		before := slices.Clone(b[:cap(b)])
		frame.Sum(b)
		frame.Scan(b)
		if !bytes.Equal(b[:cap(b)], before) {
			t.Fatalf("%v became %v", before, b[:cap(b)])
		}
	}
}

// TestScanReturnsNewMemory changes each record, with its spare capacity: neither the bytes nor another record may change.
func TestScanReturnsNewMemory(t *testing.T) {
	var want [][]byte
	for n := range 80 {
		want = append(want, bytes.Repeat([]byte{3}, n*7%20))
	}
	frames, _ := putAll(t, want)
	b := hidden(frames, bytes.Repeat([]byte{3}, 40))
	before := slices.Clone(b[:cap(b)])
	recs, _, _ := frame.Scan(b)
	other, _, _ := frame.Scan(b)
	fill(b, 4)
	if !equal(recs, want) {
		t.Fatal("Scan keeps bytes")
	}
	copy(b[:cap(b)], before)
	for i, rec := range recs {
		fill(rec, 5)
		if !equal(recs[i+1:], want[i+1:]) {
			t.Fatalf("record %d shares memory with another one", i)
		}
	}
	for i, rec := range recs {
		if !bytes.Equal(rec, bytes.Repeat([]byte{5}, len(want[i]))) {
			t.Fatalf("record %d has another one's bytes", i)
		}
	}
	for i := range recs[:cap(recs)] {
		recs[:cap(recs)][i] = []byte{6}
	}
	if !bytes.Equal(b[:cap(b)], before) || !equal(other, want) {
		t.Fatal("Scan returns bytes that it was given, or returned")
	}
}
