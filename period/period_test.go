package period_test

import (
	"math"
	"math/rand"
	"regexp"
	"strconv"
	"strings"
	"testing"
	"time"

	"apportion/api"
	"apportion/period"
)

const (
	least    = math.MinInt
	greatest = math.MaxInt
)

// kind is what the document says of one kind of periods.
type kind struct {
	number, months int
	letter         string
	width          int // digits behind the letter
}

var kinds = []kind{
	{api.Monthly, 1, "M", 2},
	{api.Quarterly, 3, "Q", 1},
	{api.Halfly, 6, "H", 1},
	{api.Yearly, 12, "", 0},
}

// most is how many periods of the kind the calendar has.
func (k kind) most() int { return 9999 * 12 / k.months }

// noKinds are ints that are no kinds.
func noKinds() []int {
	return []int{least, least + 1, -1 << 32, -4, -1, 0, 5, 6, 12, 77, 1<<32 + 1, greatest - 1, greatest}
}

// noPeriods are ints that are no periods of the kind.
func (k kind) noPeriods() []int {
	most := k.most()
	// The months of a great period, and its days, may wrap round to those of one that exists.
	wrapping := []int{math.MaxUint64/3 + 1, math.MaxUint64/6 + 1, math.MaxUint64/12 + 1, math.MaxUint64/31 + 1, math.MaxUint64/365 + 1}
	return append(wrapping, least, least+1, least/k.months, least/k.months-1, -1<<32, -most, -12, -2, -1, most, most+1, 12*most, 1<<32, greatest/k.months-1, greatest/k.months, greatest-1, greatest)
}

// timeDay is the day of a date by the calendar of package time, which is another one's work.
func timeDay(y, m, d int) int {
	seconds := time.Date(y, time.Month(m), d, 0, 0, 0, 0, time.UTC).Unix() - time.Date(1, 1, 1, 0, 0, 0, 0, time.UTC).Unix()
	return int(seconds / 86400)
}

// text is the text of a period that is told by its year and its number in it, from 1 on.
func (k kind) text(y, number int) string {
	if k.letter == "" {
		return padded(y, 4)
	}
	return padded(y, 4) + "-" + k.letter + padded(number, k.width)
}

func padded(n, width int) string {
	digits := strconv.Itoa(n)
	return strings.Repeat("0", width-len(digits)) + digits
}

func TestExamples(t *testing.T) {
	for i, want := range []int{24277, 8092, 4046, 2023} {
		if got, e := period.Of(i+1, 738944); got != want || e != api.OK {
			t.Errorf("Of(%d, 738944) = %d, %v, not %d", i+1, got, e, want)
		}
	}
	for _, x := range []struct{ kind, period, first, last int }{
		{1, 0, 0, 30},
		{2, 0, 0, 89},
		{3, 0, 0, 180},
		{4, 0, 0, 364},
		{1, 37, 1126, 1154}, // February of the year 4
		{1, 24277, 738916, 738944},
		{2, 8092, 738885, 738975},
		{3, 4046, 738885, 739066},
		{4, 2023, 738885, 739250},
		{1, 119987, 3652028, 3652058},
		{2, 39995, 3651967, 3652058},
		{3, 19997, 3651875, 3652058},
		{4, 9998, 3651694, 3652058},
	} {
		if got, e := period.First(x.kind, x.period); got != x.first || e != api.OK {
			t.Errorf("First(%d, %d) = %d, %v, not %d", x.kind, x.period, got, e, x.first)
		}
		if got, e := period.Last(x.kind, x.period); got != x.last || e != api.OK {
			t.Errorf("Last(%d, %d) = %d, %v, not %d", x.kind, x.period, got, e, x.last)
		}
	}
}

func TestTextExamples(t *testing.T) {
	for _, x := range []struct {
		kind, period int
		text         string
	}{
		{1, 0, "0001-M01"},
		{1, 11, "0001-M12"},
		{1, 12, "0002-M01"},
		{1, 24276, "2024-M01"},
		{1, 24277, "2024-M02"},
		{1, 24285, "2024-M10"},
		{1, 119987, "9999-M12"},
		{2, 0, "0001-Q1"},
		{2, 8092, "2024-Q1"},
		{2, 8095, "2024-Q4"},
		{2, 8096, "2025-Q1"},
		{2, 39995, "9999-Q4"},
		{3, 0, "0001-H1"},
		{3, 4046, "2024-H1"},
		{3, 4047, "2024-H2"},
		{3, 19997, "9999-H2"},
		{4, 0, "0001"},
		{4, 98, "0099"},
		{4, 998, "0999"},
		{4, 2023, "2024"},
		{4, 9998, "9999"},
	} {
		if got, e := period.Text(x.kind, x.period); got != x.text || e != api.OK {
			t.Errorf("Text(%d, %d) = %q, %v, not %q", x.kind, x.period, got, e, x.text)
		}
		if k, n, f := period.Parse(x.text); k != x.kind || n != x.period || f != (api.Fault{}) {
			t.Errorf("Parse(%q) = %d, %d, %v, not %d, %d", x.text, k, n, f, x.kind, x.period)
		}
	}
}

// TestAllPeriods goes through the periods of each kind in their order: they begin on day 0, leave no gap, and end with the calendar.
func TestAllPeriods(t *testing.T) {
	for _, k := range kinds {
		day, n := 0, 0
		for y := 1; y <= 9999; y++ {
			for m := 1; m <= 12; m += k.months {
				next := timeDay(y, m+k.months, 1)
				checkPeriod(t, k, n, day, next-1, k.text(y, (m-1)/k.months+1))
				day = next
				n++
			}
		}
		if day != api.MaxDay+1 || n != k.most() {
			t.Errorf("the %d periods of kind %d end ahead of day %d", n, k.number, day)
		}
	}
}

// checkPeriod holds every function against a period from one day to another one.
func checkPeriod(t *testing.T, k kind, n, first, last int, text string) {
	if got, e := period.First(k.number, n); got != first || e != api.OK {
		t.Fatalf("First(%d, %d) = %d, %v, not %d", k.number, n, got, e, first)
	}
	if got, e := period.Last(k.number, n); got != last || e != api.OK {
		t.Fatalf("Last(%d, %d) = %d, %v, not %d", k.number, n, got, e, last)
	}
	for day := first; day <= last; day++ {
		if got, e := period.Of(k.number, day); got != n || e != api.OK {
			t.Fatalf("Of(%d, %d) = %d, %v, not %d", k.number, day, got, e, n)
		}
	}
	if got, e := period.Text(k.number, n); got != text || e != api.OK {
		t.Fatalf("Text(%d, %d) = %q, %v, not %q", k.number, n, got, e, text)
	}
	if gotKind, got, f := period.Parse(text); gotKind != k.number || got != n || f != (api.Fault{}) {
		t.Fatalf("Parse(%q) = %d, %d, %v, not %d, %d", text, gotKind, got, f, k.number, n)
	}
}

// TestLongerPeriodsConsistOfShorterOnes holds the kinds against one another on each day on which something begins or ends.
func TestLongerPeriodsConsistOfShorterOnes(t *testing.T) {
	for month := range 9999 * 12 {
		first, _ := period.First(api.Monthly, month)
		last, _ := period.Last(api.Monthly, month)
		for _, k := range kinds {
			for _, day := range []int{first, last} {
				if got, e := period.Of(k.number, day); got != month/k.months || e != api.OK {
					t.Fatalf("Of(%d, %d) = %d, %v, in month %d", k.number, day, got, e, month)
				}
			}
		}
	}
	for year := range 9999 {
		first, _ := period.First(api.Yearly, year)
		last, _ := period.Last(api.Yearly, year)
		for _, k := range kinds {
			parts := 12 / k.months
			if got, e := period.First(k.number, year*parts); got != first || e != api.OK {
				t.Fatalf("First(%d, %d) = %d, %v, but its year begins on %d", k.number, year*parts, got, e, first)
			}
			if got, e := period.Last(k.number, year*parts+parts-1); got != last || e != api.OK {
				t.Fatalf("Last(%d, %d) = %d, %v, but its year ends on %d", k.number, year*parts+parts-1, got, e, last)
			}
		}
	}
}

func TestOfWhatIsNoKindOrNoDay(t *testing.T) {
	days := []int{0, 1, 738944, api.MaxDay}
	noDays := []int{least, least + 1, -1 << 32, -365, -1, api.MaxDay + 1, api.MaxDay + 365, 1 << 32, greatest - 1, greatest}
	// The kind is looked at first.
	for _, k := range noKinds() {
		for _, day := range append(days, noDays...) {
			if got, e := period.Of(k, day); got != 0 || e != api.ErrArg {
				t.Errorf("Of(%d, %d) = %d, %v", k, day, got, e)
			}
		}
	}
	for _, k := range kinds {
		for _, day := range noDays {
			if got, e := period.Of(k.number, day); got != 0 || e != api.ErrRange {
				t.Errorf("Of(%d, %d) = %d, %v", k.number, day, got, e)
			}
		}
	}
}

// refused expects First, Last and Text to answer an error, and nothing else.
func refused(t *testing.T, kind, n int, want api.Errno) {
	t.Helper()
	if got, e := period.First(kind, n); got != 0 || e != want {
		t.Errorf("First(%d, %d) = %d, %v, not %v", kind, n, got, e, want)
	}
	if got, e := period.Last(kind, n); got != 0 || e != want {
		t.Errorf("Last(%d, %d) = %d, %v, not %v", kind, n, got, e, want)
	}
	if got, e := period.Text(kind, n); got != "" || e != want {
		t.Errorf("Text(%d, %d) = %q, %v, not %v", kind, n, got, e, want)
	}
}

func TestWhatIsNoKindOrNoPeriod(t *testing.T) {
	for _, k := range kinds {
		for _, n := range k.noPeriods() {
			refused(t, k.number, n, api.ErrRange)
		}
		// The kind is looked at first.
		for _, no := range noKinds() {
			for _, n := range append(k.noPeriods(), 0, 1, 2023, k.most()-1) {
				refused(t, no, n, api.ErrArg)
			}
		}
	}
}

func TestParseRefuses(t *testing.T) {
	for _, x := range []struct {
		text  string
		fault api.Errno
		at    int
	}{
		{"0000", api.ErrRange, 0},
		{"0000-M01", api.ErrRange, 0},
		{"0000-M00", api.ErrRange, 0},
		{"0000-M99", api.ErrRange, 0},
		{"0000-Q1", api.ErrRange, 0},
		{"0000-H2", api.ErrRange, 0},
		{"2024-M00", api.ErrRange, 0},
		{"2024-M13", api.ErrRange, 0},
		{"2024-M20", api.ErrRange, 0},
		{"2024-M99", api.ErrRange, 0},
		{"", api.ErrBytes, 0},
		{"2", api.ErrBytes, 1},
		{"20", api.ErrBytes, 2},
		{"202", api.ErrBytes, 3},
		{"000", api.ErrBytes, 3},
		{"2024-", api.ErrBytes, 5},
		{"2024-M", api.ErrBytes, 6},
		{"2024-Q", api.ErrBytes, 6},
		{"2024-H", api.ErrBytes, 6},
		{"2024-M1", api.ErrBytes, 7},
		{"2024-M9", api.ErrBytes, 7},
		{"0000-M1", api.ErrBytes, 7},
		{"2024-Q0", api.ErrBytes, 6},
		{"2024-Q5", api.ErrBytes, 6},
		{"2024-Q9", api.ErrBytes, 6},
		{"0000-Q5", api.ErrBytes, 6},
		{"2024-H0", api.ErrBytes, 6},
		{"2024-H3", api.ErrBytes, 6},
		{"2024-Qx", api.ErrBytes, 6},
		{"2024-Mx1", api.ErrBytes, 6},
		{"2024-M1x", api.ErrBytes, 7},
		{"2024-M-1", api.ErrBytes, 6},
		{"2024-M+1", api.ErrBytes, 6},
		{"2024-M 1", api.ErrBytes, 6},
		{"2024-Q-1", api.ErrBytes, 6},
		{"2024-M013", api.ErrBytes, 8},
		{"2024-M130", api.ErrBytes, 8},
		{"2024-Q12", api.ErrBytes, 7},
		{"2024-Q01", api.ErrBytes, 6},
		{"2024-H11", api.ErrBytes, 7},
		{"2024-H1 ", api.ErrBytes, 7},
		{"2024-H1\x00", api.ErrBytes, 7},
		{"2024-X1", api.ErrBytes, 5},
		{"2024-Y1", api.ErrBytes, 5},
		{"2024-m01", api.ErrBytes, 5},
		{"2024-q1", api.ErrBytes, 5},
		{"2024-h1", api.ErrBytes, 5},
		{"2024-\x00", api.ErrBytes, 5},
		{"2024-01", api.ErrBytes, 5},
		{"2024--1", api.ErrBytes, 5},
		{"2024x", api.ErrBytes, 4},
		{"20240", api.ErrBytes, 4},
		{"2024 ", api.ErrBytes, 4},
		{"2024M01", api.ErrBytes, 4},
		{"2024/Q1", api.ErrBytes, 4},
		{"0000x", api.ErrBytes, 4},
		{"2024\x00", api.ErrBytes, 4},
		{"202-Q1", api.ErrBytes, 3},
		{"-024", api.ErrBytes, 0},
		{"+024", api.ErrBytes, 0},
		{" 2024", api.ErrBytes, 0},
		{"x", api.ErrBytes, 0},
		{"٢024", api.ErrBytes, 0},
		{"\xff", api.ErrBytes, 0},
		{"2024-M01" + strings.Repeat("1", 1000), api.ErrBytes, 8},
		{"2024-Q1" + strings.Repeat("1", 1000), api.ErrBytes, 7},
		{strings.Repeat("2", 1000), api.ErrBytes, 4},
	} {
		want := api.Fault{Err: x.fault, At: x.at}
		if k, n, f := period.Parse(x.text); k != 0 || n != 0 || f != want {
			t.Errorf("Parse(%q) = %d, %d, %v, not %v", x.text, k, n, f, want)
		}
	}
}

// Texts of periods whose year may be any four digits, and whose month any two; and what they may begin with.
var (
	complete = regexp.MustCompile(`^[0-9]{4}(-M[0-9]{2}|-Q[1-4]|-H[12])?$`)
	prefix   = regexp.MustCompile(`^([0-9]{0,4}|[0-9]{4}-(M[0-9]{0,2}|Q[1-4]?|H[12]?)?)$`)
)

// exactParse is what Parse ought to answer.
func exactParse(text string) (int, int, api.Fault) {
	for i := range len(text) {
		if !prefix.MatchString(text[:i]) || !prefix.MatchString(text[:i+1]) {
			return 0, 0, api.Fault{Err: api.ErrBytes, At: i}
		}
	}
	if !complete.MatchString(text) {
		return 0, 0, api.Fault{Err: api.ErrBytes, At: len(text)}
	}
	y, _ := strconv.Atoi(text[:4])
	for _, k := range kinds {
		for number := 1; y > 0 && number <= 12/k.months; number++ {
			if k.text(y, number) == text {
				return k.number, (y-1)*(12/k.months) + number - 1, api.Fault{}
			}
		}
	}
	return 0, 0, api.Fault{Err: api.ErrRange}
}

func checkParse(t *testing.T, text string) {
	t.Helper()
	wantKind, want, wantFault := exactParse(text)
	k, n, f := period.Parse(text)
	if k != wantKind || n != want || f != wantFault {
		t.Fatalf("Parse(%q) = %d, %d, %v, not %d, %d, %v", text, k, n, f, wantKind, want, wantFault)
	}
	if f.Err != api.OK {
		return
	}
	if again, e := period.Text(k, n); again != text || e != api.OK {
		t.Fatalf("Text(%d, %d) = %q, %v, though Parse read it from %q", k, n, again, e, text)
	}
}

func TestParseOfEachByteInEachPlace(t *testing.T) {
	for _, text := range []string{"2024-M02", "0001-M12", "2024-Q1", "9999-Q4", "2024-H2", "2024", "2024-M029", "2024-Q19", "2024-", "0000-M1"} {
		for i := range text {
			for b := range 256 {
				changed := text[:i] + string([]byte{byte(b)})
				checkParse(t, changed)
				checkParse(t, changed+text[i+1:])
				checkParse(t, changed+text[i:])
			}
		}
	}
}

func TestParseOfAllYearsAndNumbers(t *testing.T) {
	for y := range 10000 {
		checkParse(t, padded(y, 4))
		for number := range 10 {
			checkParse(t, padded(y, 4)+"-Q"+strconv.Itoa(number))
			checkParse(t, padded(y, 4)+"-H"+strconv.Itoa(number))
		}
	}
	for _, y := range []int{0, 1, 2, 9, 10, 99, 100, 999, 1000, 2024, 9998, 9999} {
		for number := range 100 {
			checkParse(t, padded(y, 4)+"-M"+padded(number, 2))
		}
	}
}

func TestParseOfAnyBytes(t *testing.T) {
	r := rand.New(rand.NewSource(4))
	for range 50000 {
		text := make([]byte, r.Intn(11))
		for i := range text {
			text[i] = "01234569-MQHY/:"[r.Intn(15)]
			switch {
			case r.Intn(8) == 0:
			case i == 4:
				text[i] = '-'
			case i == 5:
				text[i] = "MQH"[r.Intn(3)]
			default:
				text[i] = byte('0' + r.Intn(10))
			}
		}
		checkParse(t, string(text))
	}
}
