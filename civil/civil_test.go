package civil_test

import (
	"math"
	"math/rand"
	"regexp"
	"strconv"
	"strings"
	"testing"
	"time"

	"apportion/api"
	"apportion/civil"
)

const (
	least    = math.MinInt
	greatest = math.MaxInt
	months   = 12 * 9999 // of all years
)

// timeDay is the day of a date by the calendar of package time, which is another one's work.
func timeDay(y, m, d int) int {
	seconds := time.Date(y, time.Month(m), d, 0, 0, 0, 0, time.UTC).Unix() - time.Date(1, 1, 1, 0, 0, 0, 0, time.UTC).Unix()
	return int(seconds / 86400)
}

// timeLength is the length of an existing month by package time.
func timeLength(y, m int) int {
	return timeDay(y, m+1, 1) - timeDay(y, m, 1)
}

func isMonth(y, m int) bool {
	return y >= 1 && y <= 9999 && m >= 1 && m <= 12
}

// noDays are ints that are no days.
func noDays() []int {
	return []int{least, least + 1, -1 << 32, -146097, -7, -1, api.MaxDay + 1, api.MaxDay + 7, 1 << 32, greatest - 1, greatest}
}

func TestDayExamples(t *testing.T) {
	for _, x := range []struct{ y, m, d, day int }{
		{1, 1, 1, 0},
		{1, 1, 31, 30},
		{1, 2, 1, 31},
		{1, 12, 31, 364},
		{2, 1, 1, 365},
		{4, 2, 29, 1154},
		{4, 3, 1, 1155},
		{4, 12, 31, 1460},
		{100, 2, 28, 36217},
		{100, 3, 1, 36218},
		{100, 12, 31, 36523},
		{101, 1, 1, 36524},
		{400, 2, 29, 145790},
		{400, 12, 31, 146096},
		{401, 1, 1, 146097},
		{1970, 1, 1, 719162},
		{2024, 2, 29, 738944},
		{9999, 1, 1, 3651694},
		{9999, 12, 31, 3652058},
	} {
		if got, e := civil.Day(x.y, x.m, x.d); got != x.day || e != api.OK {
			t.Errorf("Day(%d, %d, %d) = %d, %v, not %d", x.y, x.m, x.d, got, e, x.day)
		}
		want := api.Date{Y: x.y, M: x.m, D: x.d}
		if got, e := civil.Date(x.day); got != want || e != api.OK {
			t.Errorf("Date(%d) = %v, %v, not %v", x.day, got, e, want)
		}
	}
}

func TestDayOfWhatIsNoDate(t *testing.T) {
	years := []int{least, -400, -1, 0, 1, 4, 100, 400, 1900, 2000, 2023, 2024, 9996, 9999, 10000, 10400, greatest}
	numbers := []int{least, -12, -1, 0, 1, 2, 3, 4, 5, 6, 7, 8, 9, 10, 11, 12, 13, 14, 24, 28, 29, 30, 31, 32, 1 << 32, greatest}
	for _, y := range years {
		for _, m := range numbers {
			for _, d := range numbers {
				want, wantError := 0, api.ErrArg
				if isMonth(y, m) && d >= 1 && d <= timeLength(y, m) {
					want, wantError = timeDay(y, m, d), api.OK
				}
				if got, e := civil.Day(y, m, d); got != want || e != wantError {
					t.Errorf("Day(%d, %d, %d) = %d, %v, not %d, %v", y, m, d, got, e, want, wantError)
				}
			}
		}
	}
}

func TestDateOfWhatIsNoDay(t *testing.T) {
	for _, day := range noDays() {
		if got, e := civil.Date(day); got != (api.Date{}) || e != api.ErrRange {
			t.Errorf("Date(%d) = %v, %v", day, got, e)
		}
	}
}

// TestAllDays goes through the calendar date by date, and counts the days.
func TestAllDays(t *testing.T) {
	day := 0
	for y := 1; y <= 9999; y++ {
		for m := 1; m <= 12; m++ {
			length := timeLength(y, m)
			for d := 1; d <= length; d++ {
				checkDay(t, day, api.Date{Y: y, M: m, D: d})
				day++
			}
		}
	}
	if day != api.MaxDay+1 {
		t.Errorf("the calendar has %d days", day)
	}
}

// checkDay holds every function that tells a day against its number and its date.
func checkDay(t *testing.T, day int, date api.Date) {
	if got, e := civil.Day(date.Y, date.M, date.D); got != day || e != api.OK {
		t.Fatalf("Day(%v) = %d, %v, not %d", date, got, e, day)
	}
	if got, e := civil.Date(day); got != date || e != api.OK {
		t.Fatalf("Date(%d) = %v, %v, not %v", day, got, e, date)
	}
	if got, want := civil.Weekday(day), 1+day%7; got != want {
		t.Fatalf("Weekday(%d) = %d, not %d", day, got, want)
	}
	text := exactText(date)
	if got, e := civil.Text(day); got != text || e != api.OK {
		t.Fatalf("Text(%d) = %q, %v, not %q", day, got, e, text)
	}
	if got, f := civil.Parse(text); got != day || f != (api.Fault{}) {
		t.Fatalf("Parse(%q) = %d, %v, not %d", text, got, f, day)
	}
}

func exactText(date api.Date) string {
	return padded(date.Y, 4) + "-" + padded(date.M, 2) + "-" + padded(date.D, 2)
}

func padded(n, width int) string {
	digits := strconv.Itoa(n)
	return strings.Repeat("0", width-len(digits)) + digits
}

func TestLength(t *testing.T) {
	for y := -3; y <= 10003; y++ {
		for m := -3; m <= 16; m++ {
			want := 0
			if isMonth(y, m) {
				want = timeLength(y, m)
			}
			if got := civil.Length(y, m); got != want {
				t.Errorf("Length(%d, %d) = %d, not %d", y, m, got, want)
			}
		}
	}
	for _, n := range []int{least, least + 1, -1 << 32, 1 << 32, greatest} {
		for _, x := range [][2]int{{n, 1}, {2024, n}, {n, n}, {n, 2}} {
			if got := civil.Length(x[0], x[1]); got != 0 {
				t.Errorf("Length(%d, %d) = %d", x[0], x[1], got)
			}
		}
	}
}

func TestLengthOfFebruary(t *testing.T) {
	for y, want := range map[int]int{1: 28, 4: 29, 100: 28, 200: 28, 300: 28, 400: 29, 1900: 28, 2000: 29, 2023: 28, 2024: 29, 2100: 28, 9996: 29, 9999: 28} {
		if got := civil.Length(y, 2); got != want {
			t.Errorf("Length(%d, 2) = %d, not %d", y, got, want)
		}
	}
}

func TestWeekday(t *testing.T) {
	for day, want := range map[int]int{0: 1, 1: 2, 5: 6, 6: 7, 7: 1, 738944: 4, api.MaxDay: 5} {
		if got := civil.Weekday(day); got != want {
			t.Errorf("Weekday(%d) = %d, not %d", day, got, want)
		}
	}
	for _, day := range noDays() {
		if got := civil.Weekday(day); got != 0 {
			t.Errorf("Weekday(%d) = %d", day, got)
		}
	}
}

func TestAddExamples(t *testing.T) {
	for _, x := range []struct {
		from string
		n    int
		to   string
	}{
		{"2024-02-29", 0, "2024-02-29"},
		{"2024-02-29", 12, "2025-02-28"},
		{"2024-02-29", 48, "2028-02-29"},
		{"2024-02-29", -1, "2024-01-29"},
		{"2024-01-31", 1, "2024-02-29"},
		{"2023-01-31", 1, "2023-02-28"},
		{"1900-01-30", 1, "1900-02-28"},
		{"2000-01-30", 1, "2000-02-29"},
		{"2023-01-31", 2, "2023-03-31"},
		{"2023-01-31", 3, "2023-04-30"},
		{"2023-03-31", -1, "2023-02-28"},
		{"2023-12-31", 1, "2024-01-31"},
		{"2024-01-31", -1, "2023-12-31"},
		{"2024-01-15", -13, "2022-12-15"},
		{"0001-01-01", months - 1, "9999-12-01"},
		{"9999-12-31", 1 - months, "0001-01-31"},
		{"0001-12-31", -11, "0001-01-31"},
		{"9999-01-31", 10, "9999-11-30"},
	} {
		from, _ := civil.Parse(x.from)
		got, e := civil.Add(from, x.n)
		if text, _ := civil.Text(got); text != x.to || e != api.OK {
			t.Errorf("Add(%s, %d) = %s, %v, not %s", x.from, x.n, text, e, x.to)
		}
	}
	for _, x := range [][3]int{{738944, 12, 739309}, {738944, -1, 738913}, {0, 0, 0}, {api.MaxDay, 0, api.MaxDay}} {
		if got, e := civil.Add(x[0], x[1]); got != x[2] || e != api.OK {
			t.Errorf("Add(%d, %d) = %d, %v, not %d", x[0], x[1], got, e, x[2])
		}
	}
}

func TestAddRefuses(t *testing.T) {
	refused := func(day, n int) {
		if got, e := civil.Add(day, n); got != 0 || e != api.ErrRange {
			t.Errorf("Add(%d, %d) = %d, %v", day, n, got, e)
		}
	}
	for _, x := range [][2]int{{0, -1}, {30, -1}, {31, -2}, {364, -12}, {api.MaxDay, 1}, {api.MaxDay - 30, 1}, {api.MaxDay - 31, 2}, {0, months}, {api.MaxDay, -months}, {0, 200000}, {api.MaxDay, -200000}} {
		refused(x[0], x[1])
	}
	for _, n := range []int{least, least + 1, -1 << 32, -200001, 200001, 1 << 32, greatest - 1, greatest} {
		for _, day := range []int{0, 738944, api.MaxDay} {
			refused(day, n)
		}
	}
	for _, day := range noDays() {
		for _, n := range []int{least, -200001, -1, 0, 1, 200001, greatest} {
			refused(day, n)
		}
	}
}

// TestAddMonthByMonth walks from some days both ways, until Add refuses whatever the day is.
func TestAddMonthByMonth(t *testing.T) {
	for _, day := range []int{0, 30, 58, 738944, 738914, 730484, api.MaxDay} {
		from, _ := civil.Date(day)
		for _, direction := range []int{-1, 1} {
			y, m := from.Y, from.M
			for n := range 200001 {
				checkAdd(t, day, direction*n, y, m, from.D)
				if m += direction; m == 0 || m == 13 {
					y, m = y+direction, m-12*direction
				}
			}
		}
	}
}

// checkAdd holds Add against the month y, m, in which it ought to end.
func checkAdd(t *testing.T, day, n, y, m, d int) {
	want, wantError := 0, api.ErrRange
	if isMonth(y, m) {
		want, wantError = timeDay(y, m, min(d, timeLength(y, m))), api.OK
	}
	if got, e := civil.Add(day, n); got != want || e != wantError {
		t.Fatalf("Add(%d, %d) = %d, %v, not %d, %v", day, n, got, e, want, wantError)
	}
}

func TestTextOfWhatIsNoDay(t *testing.T) {
	for _, day := range noDays() {
		if got, e := civil.Text(day); got != "" || e != api.ErrRange {
			t.Errorf("Text(%d) = %q, %v", day, got, e)
		}
	}
}

func TestParseRefuses(t *testing.T) {
	for _, x := range []struct {
		text  string
		fault api.Errno
		at    int
	}{
		{"2023-02-29", api.ErrArg, 0},
		{"1900-02-29", api.ErrArg, 0},
		{"2024-02-30", api.ErrArg, 0},
		{"2024-04-31", api.ErrArg, 0},
		{"2024-01-00", api.ErrArg, 0},
		{"2024-01-32", api.ErrArg, 0},
		{"2024-00-01", api.ErrArg, 0},
		{"2024-13-01", api.ErrArg, 0},
		{"0000-01-01", api.ErrArg, 0},
		{"0000-00-00", api.ErrArg, 0},
		{"9999-99-99", api.ErrArg, 0},
		{"", api.ErrBytes, 0},
		{"2", api.ErrBytes, 1},
		{"2024", api.ErrBytes, 4},
		{"2024-", api.ErrBytes, 5},
		{"2024-02", api.ErrBytes, 7},
		{"2024-02-", api.ErrBytes, 8},
		{"2024-02-2", api.ErrBytes, 9},
		{"2024-02-299", api.ErrBytes, 10},
		{"2024-02-29 ", api.ErrBytes, 10},
		{"2024-02-29\x00", api.ErrBytes, 10},
		{"2023-02-299", api.ErrBytes, 10},
		{"2024-02-29" + strings.Repeat("9", 1000), api.ErrBytes, 10},
		{"2024-2-29", api.ErrBytes, 6},
		{"202-02-29", api.ErrBytes, 3},
		{"20240-02-29", api.ErrBytes, 4},
		{"20240229", api.ErrBytes, 4},
		{"2024/02/29", api.ErrBytes, 4},
		{"2024-02/29", api.ErrBytes, 7},
		{"-024-02-29", api.ErrBytes, 0},
		{"+024-02-29", api.ErrBytes, 0},
		{" 2024-02-29", api.ErrBytes, 0},
		{"x", api.ErrBytes, 0},
		{"202x", api.ErrBytes, 3},
		{"2024-0x-29", api.ErrBytes, 6},
		{"2024-02-x9", api.ErrBytes, 8},
		{"2024-02-2x9", api.ErrBytes, 9},
		{"٢024-02-29", api.ErrBytes, 0},
		{"\xff", api.ErrBytes, 0},
	} {
		want := api.Fault{Err: x.fault, At: x.at}
		if got, f := civil.Parse(x.text); got != 0 || f != want {
			t.Errorf("Parse(%q) = %d, %v, not %v", x.text, got, f, want)
		}
	}
}

// prefixes[i] matches a text whose first i bytes may begin that of a date.
var prefixes = func() []*regexp.Regexp {
	parts := []string{"", "[0-9]", "[0-9]", "[0-9]", "[0-9]", "-", "[0-9]", "[0-9]", "-", "[0-9]", "[0-9]"}
	var all []*regexp.Regexp
	for i := range parts {
		all = append(all, regexp.MustCompile("^"+strings.Join(parts[:i+1], "")))
	}
	return all
}()

// exactParse is what Parse ought to answer.
func exactParse(text string) (int, api.Fault) {
	for i := range 10 {
		if !prefixes[i+1].MatchString(text) {
			return 0, api.Fault{Err: api.ErrBytes, At: i}
		}
	}
	if len(text) > 10 {
		return 0, api.Fault{Err: api.ErrBytes, At: 10}
	}
	when, err := time.Parse("2006-01-02", text)
	if err != nil || when.Year() == 0 {
		return 0, api.Fault{Err: api.ErrArg}
	}
	return timeDay(when.Year(), int(when.Month()), when.Day()), api.Fault{}
}

func checkParse(t *testing.T, text string) {
	t.Helper()
	want, wantFault := exactParse(text)
	got, f := civil.Parse(text)
	if got != want || f != wantFault {
		t.Fatalf("Parse(%q) = %d, %v, not %d, %v", text, got, f, want, wantFault)
	}
	if f.Err != api.OK {
		return
	}
	if again, e := civil.Text(got); again != text || e != api.OK {
		t.Fatalf("Text(%d) = %q, %v, though Parse read it from %q", got, again, e, text)
	}
}

func TestParseOfEachByteInEachPlace(t *testing.T) {
	for _, text := range []string{"2024-02-29", "0001-01-01", "9999-12-31", "2024-02-299", "2024-02"} {
		for i := range text {
			for b := range 256 {
				changed := text[:i] + string([]byte{byte(b)})
				checkParse(t, changed)
				checkParse(t, changed+text[i+1:])
				checkParse(t, changed+text[i:])
			}
		}
	}
}

func TestParseOfAllMonthsAndDays(t *testing.T) {
	for _, y := range []int{0, 1, 4, 100, 400, 1900, 2000, 2023, 2024, 9999} {
		for m := range 100 {
			for d := range 100 {
				checkParse(t, exactText(api.Date{Y: y, M: m, D: d}))
			}
		}
	}
}

func TestParseOfAnyBytes(t *testing.T) {
	r := rand.New(rand.NewSource(3))
	for range 50000 {
		text := make([]byte, r.Intn(13))
		for i := range text {
			text[i] = "0123-/:"[r.Intn(7)]
			if (i == 4 || i == 7) && r.Intn(8) > 0 {
				text[i] = '-'
			}
		}
		checkParse(t, string(text))
	}
}

func TestOrderOfDaysAndWeekdays(t *testing.T) {
	before, _ := civil.Date(0)
	for day := 1; day <= api.MaxDay; day++ {
		date, _ := civil.Date(day)
		if date.Y < before.Y || date.Y == before.Y && (date.M < before.M || date.M == before.M && date.D <= before.D) {
			t.Fatalf("Date(%d) = %v, which isn't later than %v", day, date, before)
		}
		if got, want := civil.Weekday(day), civil.Weekday(day-1)%7+1; got != want {
			t.Fatalf("Weekday(%d) = %d, not %d", day, got, want)
		}
		before = date
	}
}

func TestFourHundredYears(t *testing.T) {
	for day := 0; day+146097 <= api.MaxDay; day += 13 {
		from, _ := civil.Date(day)
		to, e := civil.Date(day + 146097)
		if to != (api.Date{Y: from.Y + 400, M: from.M, D: from.D}) || e != api.OK {
			t.Fatalf("146097 days behind %v it is %v, %v", from, to, e)
		}
	}
}

func TestMonthsOneAtATimeNeverLeadToALaterDayOfTheMonth(t *testing.T) {
	for first := 738885; first < 738885+731; first++ {
		date, _ := civil.Date(first)
		for _, direction := range []int{-1, 1} {
			day := first
			for range 60 {
				day, _ = civil.Add(day, direction)
				if got, e := civil.Date(day); e != api.OK || got.D > date.D {
					t.Fatalf("months one at a time lead from %v to %v, %v", date, got, e)
				}
			}
		}
	}
}
