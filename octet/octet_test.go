package octet_test

import (
	"bytes"
	"encoding/binary"
	"math"
	"math/rand"
	"slices"
	"strings"
	"testing"

	"apportion/api"
	"apportion/octet"
)

const (
	least    = math.MinInt
	greatest = math.MaxInt
)

// edges are the numbers next to those at which one more byte is needed, and those next to the greatest and least ones.
func edges() []int {
	l := []int{least, least + 1, greatest - 1, greatest}
	for bit := range 63 {
		for _, n := range []int{1<<bit - 1, 1 << bit, 1<<bit + 1} {
			l = append(l, n, -n)
		}
	}
	slices.Sort(l)
	return slices.Compact(l)
}

// texts are some texts: none, of any bytes, and of so many that their number has one, two and three bytes.
func texts() []string {
	l := []string{"", "a", "ab", "\x00", "\x80\x80", "\xff\xfe", "é", "日本", "a\x00b"}
	for _, n := range []int{63, 64, 8191, 8192, 100000} {
		l = append(l, strings.Repeat("x\xff\x00", n)[:n])
	}
	return l
}

// lists are some lists: none, of all edges, and of so many numbers that their number has one, two and three bytes.
func lists() [][]int {
	l := [][]int{nil, {}, {0}, {-1}, {1, -1}, {least, greatest}, edges()}
	for _, n := range []int{63, 64, 8191, 8192, 20000} {
		numbers := make([]int, n)
		for i := range numbers {
			numbers[i] = i*i - n
		}
		l = append(l, numbers)
	}
	return l
}

// exact is n encoded by package binary, which is another one's work.
func exact(n int) []byte {
	return binary.AppendVarint(nil, int64(n))
}

func exactText(s string) []byte {
	return append(exact(len(s)), s...)
}

func exactList(l []int) []byte {
	b := exact(len(l))
	for _, n := range l {
		b = append(b, exact(n)...)
	}
	return b
}

// hidden returns b with other bytes in the capacity behind it, which nothing ought to read.
func hidden(b []byte) []byte {
	return append(slices.Clone(b), 1, 1, 1, 1, 1, 1, 1, 1, 1, 1, 1, 1)[:len(b)]
}

func fault(e api.Errno, at int) api.Fault {
	return api.Fault{Err: e, At: at}
}

var none = api.Fault{}

func TestPutExamples(t *testing.T) {
	for _, x := range []struct {
		n int
		b []byte
	}{
		{0, []byte{0}},
		{-1, []byte{1}},
		{1, []byte{2}},
		{-2, []byte{3}},
		{63, []byte{126}},
		{-64, []byte{127}},
		{64, []byte{128, 1}},
		{-65, []byte{129, 1}},
		{8191, []byte{254, 127}},
		{-8192, []byte{255, 127}},
		{8192, []byte{128, 128, 1}},
		{-8193, []byte{129, 128, 1}},
		{greatest, []byte{254, 255, 255, 255, 255, 255, 255, 255, 255, 1}},
		{least, []byte{255, 255, 255, 255, 255, 255, 255, 255, 255, 1}},
	} {
		if got := octet.Put(x.n); !bytes.Equal(got, x.b) {
			t.Errorf("Put(%d) = %v, not %v", x.n, got, x.b)
		}
		checkGet(t, x.b, 0, x.n, len(x.b), none)
	}
	if got := octet.PutText("ab"); !bytes.Equal(got, []byte{4, 97, 98}) {
		t.Errorf("PutText(ab) = %v", got)
	}
	if got := octet.PutList([]int{1, -1}); !bytes.Equal(got, []byte{4, 2, 1}) {
		t.Errorf("PutList(1 -1) = %v", got)
	}
}

func TestPut(t *testing.T) {
	r := rand.New(rand.NewSource(5))
	numbers := edges()
	for range 20000 {
		numbers = append(numbers, int(r.Uint64())>>r.Intn(64))
	}
	for _, n := range numbers {
		if got := octet.Put(n); !bytes.Equal(got, exact(n)) {
			t.Errorf("Put(%d) = %v, not %v", n, got, exact(n))
		}
	}
	for _, s := range texts() {
		if got := octet.PutText(s); !bytes.Equal(got, exactText(s)) {
			t.Errorf("PutText of %d bytes = %v, not %v", len(s), got, exactText(s))
		}
	}
	for _, l := range lists() {
		if got := octet.PutList(l); !bytes.Equal(got, exactList(l)) {
			t.Errorf("PutList of %d numbers = %v, not %v", len(l), got, exactList(l))
		}
	}
}

func checkGet(t *testing.T, b []byte, at, wantNumber, wantNext int, want api.Fault) {
	t.Helper()
	if n, next, f := octet.Get(hidden(b), at); n != wantNumber || next != wantNext || f != want {
		t.Errorf("Get(%v, %d) = %d, %d, %v, not %d, %d, %v", b, at, n, next, f, wantNumber, wantNext, want)
	}
}

// full is so many bytes behind each of which another one follows, and the last ones.
func full(n int, last ...byte) []byte {
	return append(bytes.Repeat([]byte{255}, n), last...)
}

func TestGetRefuses(t *testing.T) {
	for _, x := range []struct {
		b    []byte
		at   int
		want api.Fault
	}{
		{nil, least, fault(api.ErrRange, 0)},
		{nil, -1, fault(api.ErrRange, 0)},
		{nil, 0, fault(api.ErrBytes, 0)},
		{nil, 1, fault(api.ErrRange, 0)},
		{nil, greatest, fault(api.ErrRange, 0)},
		{[]byte{2, 2}, least, fault(api.ErrRange, 0)},
		{[]byte{2, 2}, -1, fault(api.ErrRange, 0)},
		{[]byte{2, 2}, 2, fault(api.ErrBytes, 2)},
		{[]byte{2, 2}, 3, fault(api.ErrRange, 0)},
		{[]byte{2, 2}, greatest, fault(api.ErrRange, 0)},
		{[]byte{128}, 0, fault(api.ErrBytes, 1)},
		{[]byte{7, 128}, 1, fault(api.ErrBytes, 2)},
		{[]byte{128, 0}, 0, fault(api.ErrBytes, 1)},
		{[]byte{129, 0}, 0, fault(api.ErrBytes, 1)},
		{[]byte{128, 128}, 0, fault(api.ErrBytes, 2)},
		{[]byte{128, 128, 0}, 0, fault(api.ErrBytes, 2)},
		{[]byte{7, 128, 128, 0, 5}, 1, fault(api.ErrBytes, 3)},
		{full(8, 0), 0, fault(api.ErrBytes, 8)},
		{full(9), 0, fault(api.ErrBytes, 9)},
		{full(9, 0), 0, fault(api.ErrBytes, 9)},
		{full(9, 2), 0, fault(api.ErrRange, 9)},
		{full(9, 127), 0, fault(api.ErrRange, 9)},
		{full(9, 128), 0, fault(api.ErrRange, 9)},
		{full(9, 129, 0), 0, fault(api.ErrRange, 9)},
		{full(9, 255), 0, fault(api.ErrRange, 9)},
		{full(20), 0, fault(api.ErrRange, 9)},
		{full(20), 3, fault(api.ErrRange, 12)},
		{full(20), 10, fault(api.ErrRange, 19)},
		{full(20), 11, fault(api.ErrBytes, 20)},
		{bytes.Repeat([]byte{128}, 10), 0, fault(api.ErrRange, 9)},
		{append(bytes.Repeat([]byte{128}, 9), 0), 0, fault(api.ErrBytes, 9)},
	} {
		checkGet(t, x.b, x.at, 0, 0, x.want)
	}
}

func TestGetOfLongNumbers(t *testing.T) {
	checkGet(t, full(8, 127), 0, -1<<62, 9, none)
	checkGet(t, full(8, 1), 0, -1<<56, 9, none)
	checkGet(t, append(bytes.Repeat([]byte{128}, 9), 1), 0, 1<<62, 10, none)
	checkGet(t, []byte{0}, 0, 0, 1, none)
	checkGet(t, []byte{0, 0}, 0, 0, 1, none)
	checkGet(t, []byte{0, 0}, 1, 0, 2, none)
	checkGet(t, append(full(9, 1), 255), 0, least, 10, none)
}

// exactGet is what Get ought to answer for a position within b.
func exactGet(b []byte, at int) (int, int, api.Fault) {
	for i := at; i < len(b); i++ {
		if i == at+9 && b[i] > 1 {
			return 0, 0, fault(api.ErrRange, i)
		}
		if b[i] == 0 && i > at {
			return 0, 0, fault(api.ErrBytes, i)
		}
		if b[i] < 128 {
			n, _ := binary.Varint(b[at : i+1])
			return int(n), i + 1, none
		}
	}
	return 0, 0, fault(api.ErrBytes, len(b))
}

// checkBytes holds Get against what it ought to answer, and what it read against what Put writes.
func checkBytes(t *testing.T, b []byte, at int) {
	t.Helper()
	wantNumber, wantNext, want := exactGet(b, at)
	n, next, f := octet.Get(b, at)
	if n != wantNumber || next != wantNext || f != want {
		t.Fatalf("Get(%v, %d) = %d, %d, %v, not %d, %d, %v", b, at, n, next, f, wantNumber, wantNext, want)
	}
	if f == none && !bytes.Equal(octet.Put(n), b[at:next]) {
		t.Fatalf("Put(%d) = %v, though Get read it from %v", n, octet.Put(n), b[at:next])
	}
}

func TestGetOfAllShortBytes(t *testing.T) {
	for first := range 256 {
		checkBytes(t, []byte{byte(first)}, 0)
		for second := range 256 {
			checkBytes(t, []byte{byte(first), byte(second)}, 0)
			checkBytes(t, []byte{byte(first), byte(second)}, 1)
			for _, third := range []byte{0, 1, 2, 127, 128, 129, 255} {
				checkBytes(t, []byte{byte(first), byte(second), third}, 0)
			}
		}
	}
}

func TestGetOfAnyBytes(t *testing.T) {
	r := rand.New(rand.NewSource(55))
	for range 200000 {
		b := make([]byte, r.Intn(14))
		for i := range b {
			b[i] = byte(r.Intn(256))
			if r.Intn(5) > 0 {
				b[i] |= 128
			}
			if r.Intn(12) == 0 {
				b[i] = byte(r.Intn(3))
			}
		}
		checkBytes(t, b, r.Intn(len(b)+1))
	}
}

func TestGetTextAndGetListExamples(t *testing.T) {
	checkText(t, []byte{4, 97, 98}, 0, 2, "ab", 3, none)
	checkText(t, []byte{4, 97, 98}, 0, 1, "", 0, fault(api.ErrLong, 0))
	checkText(t, []byte{1}, 0, 9, "", 0, fault(api.ErrRange, 0))
	checkText(t, []byte{4, 97}, 0, 9, "", 0, fault(api.ErrBytes, 2))
	checkList(t, []byte{4, 2, 1}, 0, 2, []int{1, -1}, 3, none)
	checkList(t, []byte{4, 2, 1}, 0, greatest, []int{1, -1}, 3, none)
	checkList(t, []byte{9, 9, 4, 2, 1, 9}, 2, 2, []int{1, -1}, 5, none)
	checkText(t, []byte{0}, 0, 0, "", 1, none)
	checkList(t, []byte{0}, 0, 0, nil, 1, none)
	checkText(t, []byte{7, 0, 7}, 1, 0, "", 2, none)
	checkList(t, []byte{7, 0, 7}, 1, 0, nil, 2, none)
}

func checkText(t *testing.T, b []byte, at, most int, wantText string, wantNext int, want api.Fault) {
	t.Helper()
	if s, next, f := octet.GetText(hidden(b), at, most); s != wantText || next != wantNext || f != want {
		t.Errorf("GetText(%v, %d, %d) = %q, %d, %v, not %q, %d, %v", b, at, most, s, next, f, wantText, wantNext, want)
	}
}

func checkList(t *testing.T, b []byte, at, most int, wantList []int, wantNext int, want api.Fault) {
	t.Helper()
	if l, next, f := octet.GetList(hidden(b), at, most); !slices.Equal(l, wantList) || next != wantNext || f != want {
		t.Errorf("GetList(%v, %d, %d) = %v, %d, %v, not %v, %d, %v", b, at, most, l, next, f, wantList, wantNext, want)
	}
}

// TestGetTextAndGetListRefuse is about what both refuse for their lengths.
func TestGetTextAndGetListRefuse(t *testing.T) {
	for _, x := range []struct {
		b        []byte
		at, most int
		want     api.Fault
	}{
		// most is looked at first.
		{[]byte{0}, 0, -1, fault(api.ErrArg, 0)},
		{[]byte{9, 0}, 1, least, fault(api.ErrArg, 0)},
		{[]byte{9, 0}, -1, -1, fault(api.ErrArg, 0)},
		{[]byte{9, 128}, 1, -1, fault(api.ErrArg, 0)},
		{[]byte{9, 1}, 1, -1, fault(api.ErrArg, 0)},
		{[]byte{9, 1}, 1, -5, fault(api.ErrArg, 0)},
		{nil, 0, -1, fault(api.ErrArg, 0)},
		// Then the length.
		{nil, 0, 0, fault(api.ErrBytes, 0)},
		{nil, 1, 0, fault(api.ErrRange, 0)},
		{[]byte{0, 0}, -1, 0, fault(api.ErrRange, 0)},
		{[]byte{0, 0}, 3, 0, fault(api.ErrRange, 0)},
		{[]byte{0, 0}, least, 0, fault(api.ErrRange, 0)},
		{[]byte{0, 0}, greatest, 0, fault(api.ErrRange, 0)},
		{[]byte{0, 0}, 2, 0, fault(api.ErrBytes, 2)},
		{[]byte{9, 128}, 1, 9, fault(api.ErrBytes, 2)},
		{[]byte{9, 128, 0}, 1, 9, fault(api.ErrBytes, 2)},
		{full(9, 2), 0, 9, fault(api.ErrRange, 9)},
		{full(10, 2), 1, 9, fault(api.ErrRange, 10)},
		// Then what it is.
		{[]byte{1, 2}, 0, 0, fault(api.ErrRange, 0)},
		{[]byte{9, 1, 2}, 1, 0, fault(api.ErrRange, 1)},
		{[]byte{9, 1, 2}, 1, greatest, fault(api.ErrRange, 1)},
		{full(9, 1), 0, greatest, fault(api.ErrRange, 0)},
		{[]byte{9, 4, 2, 2}, 1, 1, fault(api.ErrLong, 1)},
		{[]byte{9, 4, 2, 2}, 1, 0, fault(api.ErrLong, 1)},
		{[]byte{9, 4}, 1, 1, fault(api.ErrLong, 1)},
		{exact(greatest), 0, greatest - 1, fault(api.ErrLong, 0)},
		// Then what is not there.
		{[]byte{9, 4, 2}, 1, 2, fault(api.ErrBytes, 3)},
		{[]byte{9, 4}, 1, greatest, fault(api.ErrBytes, 2)},
		{append(exact(greatest), 2, 2), 0, greatest, fault(api.ErrBytes, 12)},
		{append(exact(1<<40), 2, 2), 0, greatest, fault(api.ErrBytes, 8)},
	} {
		checkText(t, x.b, x.at, x.most, "", 0, x.want)
		checkList(t, x.b, x.at, x.most, nil, 0, x.want)
	}
}

func TestGetListRefusesNumbers(t *testing.T) {
	for _, x := range []struct {
		b    []byte
		want api.Fault
	}{
		{[]byte{4, 2, 128}, fault(api.ErrBytes, 3)},
		{[]byte{4, 2, 128, 0}, fault(api.ErrBytes, 3)},
		{[]byte{4, 128, 0, 2}, fault(api.ErrBytes, 2)},
		{[]byte{6, 128, 0}, fault(api.ErrBytes, 2)}, // it comes ahead of what is not there
		{append([]byte{4, 2}, full(9, 2)...), fault(api.ErrRange, 11)},
		{append([]byte{200, 1, 2}, full(9, 2)...), fault(api.ErrRange, 12)},
		{append([]byte{4}, full(9, 1)...), fault(api.ErrBytes, 11)},
	} {
		checkList(t, x.b, 0, 1000, nil, 0, x.want)
	}
}

// TestMostIsAllowed is about texts and lists of just as many elements as there may be, and of one more.
func TestMostIsAllowed(t *testing.T) {
	for n := range 200 {
		s, l := strings.Repeat("x", n), make([]int, n)
		checkText(t, exactText(s), 0, n, s, len(exactText(s)), none)
		checkList(t, exactList(l), 0, n, l, len(exactList(l)), none)
		if n > 0 {
			checkText(t, exactText(s), 0, n-1, "", 0, fault(api.ErrLong, 0))
			checkList(t, exactList(l), 0, n-1, nil, 0, fault(api.ErrLong, 0))
		}
	}
}

// TestWrittenIsReadAgainWhereverItStands puts other bytes ahead of what is written, and behind it.
func TestWrittenIsReadAgainWhereverItStands(t *testing.T) {
	for _, ahead := range [][]byte{nil, {0}, {255, 255, 255}, full(40)} {
		for _, behind := range [][]byte{nil, {0}, {1}, {128}, full(40)} {
			around := func(b []byte) ([]byte, int, int) {
				return slices.Concat(ahead, b, behind), len(ahead), len(ahead) + len(b)
			}
			for _, n := range edges() {
				b, at, next := around(octet.Put(n))
				checkGet(t, b, at, n, next, none)
			}
			for _, s := range texts() {
				b, at, next := around(octet.PutText(s))
				checkText(t, b, at, len(s), s, next, none)
			}
			for _, l := range lists() {
				b, at, next := around(octet.PutList(l))
				checkList(t, b, at, len(l), l, next, none)
			}
		}
	}
}

// TestReadIsWrittenAgain reads texts and lists of any bytes: what is read is encoded as the bytes from which it was read.
func TestReadIsWrittenAgain(t *testing.T) {
	r := rand.New(rand.NewSource(555))
	for range 100000 {
		b := make([]byte, r.Intn(12))
		for i := range b {
			b[i] = byte(r.Intn(256) >> r.Intn(8))
		}
		at := r.Intn(len(b) + 1)
		if s, next, f := octet.GetText(b, at, 20); f == none && !bytes.Equal(octet.PutText(s), b[at:next]) {
			t.Fatalf("PutText(%q) = %v, though GetText read it from %v", s, octet.PutText(s), b[at:next])
		}
		if l, next, f := octet.GetList(b, at, 20); f == none && !bytes.Equal(octet.PutList(l), b[at:next]) {
			t.Fatalf("PutList(%v) = %v, though GetList read it from %v", l, octet.PutList(l), b[at:next])
		}
	}
}

func TestNoNumberBeginsWithAnother(t *testing.T) {
	numbers := edges()
	for _, n := range numbers {
		for _, m := range numbers {
			if n != m && bytes.HasPrefix(octet.Put(n), octet.Put(m)) {
				t.Errorf("Put(%d) = %v begins with Put(%d) = %v", n, octet.Put(n), m, octet.Put(m))
			}
		}
	}
	// What is cut short is no number.
	for _, n := range numbers {
		b := octet.Put(n)
		for i := range b {
			checkGet(t, b[:i], 0, 0, 0, fault(api.ErrBytes, i))
		}
	}
}

// TestResultsAreNewMemory writes over what was returned, and over what was given.
func TestResultsAreNewMemory(t *testing.T) {
	given := []int{1, 2, 3, 99}[:3]
	written := octet.PutList(given)
	for i := range written {
		written[i] = 77
	}
	_ = append(written, 88)
	if !slices.Equal(given[:4], []int{1, 2, 3, 99}) || !bytes.Equal(octet.PutList(given), []byte{6, 2, 4, 6}) {
		t.Error("PutList keeps what it returned")
	}
	first, second := octet.Put(5), octet.Put(5)
	first[0] = 77
	if _ = append(first, 1, 2, 3); second[0] != 10 || octet.Put(5)[0] != 10 {
		t.Error("Put keeps what it returned")
	}

	b := hidden([]byte{4, 97, 98, 4, 2, 1})
	whole := slices.Clone(b[:cap(b)])
	text, _, _ := octet.GetText(b, 0, 9)
	list, _, _ := octet.GetList(b, 3, 9)
	list[0] = 55
	for i := range list[:cap(list)] {
		list[:cap(list)][i] = 55
	}
	if !bytes.Equal(b[:cap(b)], whole) {
		t.Error("GetList returns what it was given")
	}
	clear(b)
	if text != "ab" {
		t.Error("GetText keeps what it was given")
	}
}

func TestReaderExamples(t *testing.T) {
	r := octet.New([]byte{2, 4})
	if n := r.Int(0, 9); n != 1 {
		t.Error(n)
	}
	checkReader(t, r, 1, none, fault(api.ErrBytes, 1))
	if n := r.Int(0, 1); n != 0 {
		t.Error(n)
	}
	checkReader(t, r, 1, fault(api.ErrRange, 1), fault(api.ErrRange, 1))
	if n := r.Int(0, 9); n != 0 {
		t.Error(n)
	}
	checkReader(t, r, 1, fault(api.ErrRange, 1), fault(api.ErrRange, 1))
}

// checkReader holds what tells about a reader against what it ought to be.
func checkReader(t *testing.T, r *octet.Reader, at int, want, end api.Fault) {
	t.Helper()
	if r.At() != at || r.Fault() != want || r.End() != end {
		t.Errorf("a reader at %d, not %d; with the fault %v, not %v, and at its end %v, not %v", r.At(), at, r.Fault(), want, r.End(), end)
	}
}

func TestReaderOfNothing(t *testing.T) {
	for _, b := range [][]byte{nil, {}} {
		checkReader(t, octet.New(b), 0, none, none)
		r := octet.New(hidden(b))
		if n := r.Int(least, greatest); n != 0 {
			t.Error(n)
		}
		checkReader(t, r, 0, fault(api.ErrBytes, 0), fault(api.ErrBytes, 0))
	}
}

// TestReaderInt is about one number, and one byte behind it.
func TestReaderInt(t *testing.T) {
	for _, n := range edges() {
		b := append(exact(n), 0)
		accepted := [][2]int{{least, greatest}, {n, n}, {n, greatest}, {least, n}}
		for _, x := range accepted {
			r := octet.New(b)
			if got := r.Int(x[0], x[1]); got != n {
				t.Errorf("Int(%d, %d) = %d, not %d", x[0], x[1], got, n)
			}
			checkReader(t, r, len(b)-1, none, fault(api.ErrBytes, len(b)-1))
		}
		refused := [][2]int{{greatest, least}}
		if n > least {
			refused = append(refused, [2]int{least, n - 1}, [2]int{n, n - 1})
		}
		if n < greatest {
			refused = append(refused, [2]int{n + 1, greatest}, [2]int{n + 1, n})
		}
		for _, x := range refused {
			r := octet.New(b)
			if got := r.Int(x[0], x[1]); got != 0 {
				t.Errorf("Int(%d, %d) = %d of %d", x[0], x[1], got, n)
			}
			checkReader(t, r, 0, fault(api.ErrRange, 0), fault(api.ErrRange, 0))
		}
	}
}

// TestReaderCount is about one number behind two bytes; a number may be greater than a most that is negative, even if it is negative itself.
func TestReaderCount(t *testing.T) {
	for _, x := range []struct {
		n, most int
		want    api.Errno
	}{
		{0, 0, api.OK},
		{5, 5, api.OK},
		{5, greatest, api.OK},
		{greatest, greatest, api.OK},
		{1, 0, api.ErrLong},
		{6, 5, api.ErrLong},
		{greatest, 0, api.ErrLong},
		{greatest, greatest - 1, api.ErrLong},
		{-1, 0, api.ErrRange},
		{-1, 5, api.ErrRange},
		{least, greatest, api.ErrRange},
		{0, -1, api.ErrLong},
		{5, least, api.ErrLong},
		{-1, -1, api.ErrRange},
		{-2, -1, api.ErrRange},
		{least, least, api.ErrRange},
		{-1, -2, api.ErrLong},
	} {
		number := exact(x.n)
		r := octet.New(slices.Concat([]byte{0, 0}, number))
		r.Int(0, 0)
		r.Int(0, 0)
		got := r.Count(x.most)
		switch {
		case x.want == api.OK:
			if got != x.n {
				t.Errorf("Count(%d) = %d, not %d", x.most, got, x.n)
			}
			checkReader(t, r, 2+len(number), none, none)
		case got != 0:
			t.Errorf("Count(%d) = %d of %d", x.most, got, x.n)
		default:
			checkReader(t, r, 2, fault(x.want, 2), fault(x.want, 2))
		}
	}
}

func TestReaderText(t *testing.T) {
	for _, s := range texts() {
		b := slices.Concat([]byte{2}, exactText(s), []byte{0})
		r := octet.New(b)
		r.Int(1, 1)
		if got := r.Text(len(s)); got != s {
			t.Errorf("Text(%d) = %q, not %q", len(s), got, s)
		}
		checkReader(t, r, len(b)-1, none, fault(api.ErrBytes, len(b)-1))
	}
	for _, x := range []struct {
		behind []byte // a number of one byte
		most   int
		want   api.Fault
	}{
		{[]byte{0}, -1, fault(api.ErrArg, 0)},
		{nil, -1, fault(api.ErrArg, 0)},
		{nil, 9, fault(api.ErrBytes, 1)},
		{[]byte{128, 0}, 9, fault(api.ErrBytes, 2)},
		{full(9, 2), 9, fault(api.ErrRange, 10)},
		{[]byte{1, 97}, 9, fault(api.ErrRange, 1)},
		{[]byte{4, 97, 98}, 1, fault(api.ErrLong, 1)},
		{[]byte{4, 97}, 9, fault(api.ErrBytes, 3)},
		{exact(greatest), greatest, fault(api.ErrBytes, 11)},
	} {
		r := octet.New(hidden(append([]byte{2}, x.behind...)))
		r.Int(1, 1)
		if got := r.Text(x.most); got != "" {
			t.Errorf("Text(%d) = %q of %v", x.most, got, x.behind)
		}
		checkReader(t, r, 1, x.want, x.want)
	}
}

// TestReaderGetsFaultsOfNumbers is about what Get refuses, which Int and Count pass on whatever their bounds are.
func TestReaderGetsFaultsOfNumbers(t *testing.T) {
	for _, x := range []struct {
		behind []byte // a number of one byte
		want   api.Fault
	}{
		{nil, fault(api.ErrBytes, 1)},
		{[]byte{128}, fault(api.ErrBytes, 2)},
		{[]byte{128, 0}, fault(api.ErrBytes, 2)},
		{full(9, 2), fault(api.ErrRange, 10)},
		{full(9, 255), fault(api.ErrRange, 10)},
	} {
		for _, bounds := range [][2]int{{least, greatest}, {0, 9}, {0, 0}, {9, 0}, {0, -1}} {
			for _, one := range []func(r *octet.Reader) int{
				func(r *octet.Reader) int { return r.Int(bounds[0], bounds[1]) },
				func(r *octet.Reader) int { return r.Count(bounds[1]) },
			} {
				r := octet.New(append([]byte{2}, x.behind...))
				r.Int(1, 1)
				if got := one(r); got != 0 {
					t.Errorf("%d of %v", got, x.behind)
				}
				checkReader(t, r, 1, x.want, x.want)
			}
		}
	}
}

// TestReaderAfterAFault: the first fault stays, whatever is asked for then.
func TestReaderAfterAFault(t *testing.T) {
	for _, spoil := range []struct {
		do   func(r *octet.Reader)
		want api.Fault
	}{
		{func(r *octet.Reader) { r.Int(3, 9) }, fault(api.ErrRange, 1)},
		{func(r *octet.Reader) { r.Count(1) }, fault(api.ErrLong, 1)},
		{func(r *octet.Reader) { r.Text(1) }, fault(api.ErrLong, 1)},
		{func(r *octet.Reader) { r.Text(-1) }, fault(api.ErrArg, 0)},
	} {
		r := octet.New([]byte{2, 4, 97, 98})
		r.Int(1, 1)
		spoil.do(r)
		for range 2 {
			if n, s, c := r.Int(least, greatest), r.Text(greatest), r.Count(greatest); n != 0 || s != "" || c != 0 {
				t.Errorf("%d, %q and %d are read after a fault", n, s, c)
			}
			r.Int(9, 0)
			r.Text(-1)
			r.Count(-1)
			checkReader(t, r, 1, spoil.want, spoil.want)
		}
	}
}

// TestEndIsNoFault: a reader goes on after End told that bytes are left.
func TestEndIsNoFault(t *testing.T) {
	r := octet.New([]byte{2, 4})
	checkReader(t, r, 0, none, fault(api.ErrBytes, 0))
	if a, b := r.Int(1, 1), r.Int(2, 2); a != 1 || b != 2 {
		t.Error(a, b)
	}
	checkReader(t, r, 2, none, none)
}

func TestReadersThatNewDidNotReturn(t *testing.T) {
	var absent *octet.Reader
	r := octet.New([]byte{2, 4, 4})
	copied := *r
	r.Int(1, 1)
	copiedWithin := *r
	r.Int(9, 9)
	copiedAtFault := *r
	for name, r := range map[string]*octet.Reader{"nil": absent, "zero": {}, "copy": &copied, "copy within": &copiedWithin, "copy at fault": &copiedAtFault} {
		for range 2 {
			if n, s, c := r.Int(least, greatest), r.Text(9), r.Count(9); n != 0 || s != "" || c != 0 {
				t.Errorf("%s: %d, %q, %d", name, n, s, c)
			}
			checkReader(t, r, 0, fault(api.ErrNil, 0), fault(api.ErrNil, 0))
		}
	}
}

// TestReaderKeepsBytesAsTheyWere changes what New was given, and its spare capacity.
func TestReaderKeepsBytesAsTheyWere(t *testing.T) {
	b := hidden([]byte{2, 4, 97, 98})
	whole := slices.Clone(b[:cap(b)])
	r := octet.New(b)
	other := octet.New(b)
	if !bytes.Equal(b[:cap(b)], whole) {
		t.Error("New changes what it was given")
	}
	for i := range b[:cap(b)] {
		b[:cap(b)][i] = 255
	}
	for _, x := range []*octet.Reader{r, other} {
		if n, s := x.Int(0, 9), x.Text(9); n != 1 || s != "ab" {
			t.Errorf("%d, %q", n, s)
		}
		checkReader(t, x, 4, none, none)
	}
	for _, n := range b {
		if n != 255 {
			t.Error("a reader changes what New was given")
		}
	}
}

// model is what a reader ought to be, by the functions that it stands on.
type model struct {
	b     []byte
	at    int
	fault api.Fault
}

func (m *model) keep(next int, f api.Fault) {
	if m.fault = f; f == none {
		m.at = next
	}
}

func (m *model) number(low, high int, above api.Errno) int {
	if m.fault != none {
		return 0
	}
	n, next, f := exactGet(m.b, m.at)
	switch {
	case f != none:
	case n > high:
		f = fault(above, m.at)
	case n < low:
		f = fault(api.ErrRange, m.at)
	}
	if m.keep(next, f); f != none {
		return 0
	}
	return n
}

func (m *model) text(most int) string {
	if m.fault != none {
		return ""
	}
	s, next, f := octet.GetText(m.b, m.at, most)
	m.keep(next, f)
	return s
}

func (m *model) end() api.Fault {
	if m.fault == none && m.at < len(m.b) {
		return fault(api.ErrBytes, m.at)
	}
	return m.fault
}

// TestReaderOfAnyBytes asks readers of any bytes for anything, and holds them against a model.
func TestReaderOfAnyBytes(t *testing.T) {
	r := rand.New(rand.NewSource(5555))
	for range 30000 {
		b := make([]byte, r.Intn(30))
		for i := range b {
			b[i] = byte(r.Intn(256) >> r.Intn(8))
		}
		reader, m := octet.New(b), &model{b: b}
		for range 20 {
			high := r.Intn(300) - 20
			switch r.Intn(3) {
			case 0:
				low := high - r.Intn(400)
				if got, want := reader.Int(low, high), m.number(low, high, api.ErrRange); got != want {
					t.Fatalf("%v: Int(%d, %d) = %d, not %d", b, low, high, got, want)
				}
			case 1:
				if got, want := reader.Count(high), m.number(0, high, api.ErrLong); got != want {
					t.Fatalf("%v: Count(%d) = %d, not %d", b, high, got, want)
				}
			case 2:
				if got, want := reader.Text(high), m.text(high); got != want {
					t.Fatalf("%v: Text(%d) = %q, not %q", b, high, got, want)
				}
			}
			checkReader(t, reader, m.at, m.fault, m.end())
		}
	}
}
