package words_test

import (
	"math"
	"slices"
	"strconv"
	"strings"
	"sync"
	"testing"

	"apportion/api"
	"apportion/words"
)

// kind is what the document says of one kind of words.
type kind struct {
	number int
	longs  map[string]string // by their short forms
}

var kinds = []kind{
	{api.WordSuffix, map[string]string{
		"ALY": "ALLEY", "AVE": "AVENUE", "BLVD": "BOULEVARD", "CIR": "CIRCLE", "CT": "COURT",
		"DR": "DRIVE", "EXPY": "EXPRESSWAY", "HWY": "HIGHWAY", "LN": "LANE", "LOOP": "LOOP",
		"PKWY": "PARKWAY", "PL": "PLACE", "PLZ": "PLAZA", "RD": "ROAD", "ROW": "ROW",
		"SQ": "SQUARE", "ST": "STREET", "TER": "TERRACE", "TRL": "TRAIL", "WAY": "WAY",
	}},
	{api.WordDirection, map[string]string{
		"E": "EAST", "N": "NORTH", "NE": "NORTHEAST", "NW": "NORTHWEST",
		"S": "SOUTH", "SE": "SOUTHEAST", "SW": "SOUTHWEST", "W": "WEST",
	}},
	{api.WordState, map[string]string{
		"AL": "ALABAMA", "AK": "ALASKA", "AZ": "ARIZONA", "AR": "ARKANSAS", "CA": "CALIFORNIA",
		"CO": "COLORADO", "CT": "CONNECTICUT", "DE": "DELAWARE", "DC": "DISTRICT OF COLUMBIA",
		"FL": "FLORIDA", "GA": "GEORGIA", "HI": "HAWAII", "ID": "IDAHO", "IL": "ILLINOIS",
		"IN": "INDIANA", "IA": "IOWA", "KS": "KANSAS", "KY": "KENTUCKY", "LA": "LOUISIANA",
		"ME": "MAINE", "MD": "MARYLAND", "MA": "MASSACHUSETTS", "MI": "MICHIGAN",
		"MN": "MINNESOTA", "MS": "MISSISSIPPI", "MO": "MISSOURI", "MT": "MONTANA",
		"NE": "NEBRASKA", "NV": "NEVADA", "NH": "NEW HAMPSHIRE", "NJ": "NEW JERSEY",
		"NM": "NEW MEXICO", "NY": "NEW YORK", "NC": "NORTH CAROLINA", "ND": "NORTH DAKOTA",
		"OH": "OHIO", "OK": "OKLAHOMA", "OR": "OREGON", "PA": "PENNSYLVANIA",
		"RI": "RHODE ISLAND", "SC": "SOUTH CAROLINA", "SD": "SOUTH DAKOTA", "TN": "TENNESSEE",
		"TX": "TEXAS", "UT": "UTAH", "VT": "VERMONT", "VA": "VIRGINIA", "WA": "WASHINGTON",
		"WV": "WEST VIRGINIA", "WI": "WISCONSIN", "WY": "WYOMING",
	}},
	{api.WordUnit, map[string]string{
		"APT": "APARTMENT", "BLDG": "BUILDING", "FL": "FLOOR",
		"RM": "ROOM", "STE": "SUITE", "UNIT": "UNIT",
	}},
}

// noKinds are ints that are no kinds; the low bits of some are those of one.
func noKinds() []int {
	return []int{math.MinInt, math.MinInt + 1, -1 << 32, -1<<32 + 1, -4, -3, -2, -1, 0, 5, 6, 8, 255, 256 + 1, 1 << 32, 1<<32 + 1, math.MaxInt - 1, math.MaxInt}
}

// short is what Short ought to answer.
func (k kind) short(text string) (string, bool) {
	for short, long := range k.longs {
		if text == short || text == long {
			return short, true
		}
	}
	return "", false
}

// long is what Long ought to answer.
func (k kind) long(text string) (string, bool) {
	long, there := k.longs[text]
	return long, there
}

// all is what All ought to answer.
func (k kind) all() []string {
	var l []string
	for short := range k.longs {
		l = append(l, short)
	}
	slices.SortFunc(l, strings.Compare)
	return l
}

func (k kind) check(t *testing.T, text string) {
	t.Helper()
	want, is := k.short(text)
	if got, ok := words.Short(k.number, text); got != want || ok != is {
		t.Errorf("Short(%d, %q) = %q, %v, not %q, %v", k.number, text, got, ok, want, is)
	}
	want, is = k.long(text)
	if got, ok := words.Long(k.number, text); got != want || ok != is {
		t.Errorf("Long(%d, %q) = %q, %v, not %q, %v", k.number, text, got, ok, want, is)
	}
}

// known are the long words and short forms of all kinds.
func known() []string {
	var l []string
	for _, k := range kinds {
		for short, long := range k.longs {
			l = append(l, short, long)
		}
	}
	return l
}

func expectShort(t *testing.T, number int, word, want string, is bool) {
	t.Helper()
	if got, ok := words.Short(number, word); got != want || ok != is {
		t.Errorf("Short(%d, %q) = %q, %v, not %q, %v", number, word, got, ok, want, is)
	}
}

func expectLong(t *testing.T, number int, short, want string, is bool) {
	t.Helper()
	if got, ok := words.Long(number, short); got != want || ok != is {
		t.Errorf("Long(%d, %q) = %q, %v, not %q, %v", number, short, got, ok, want, is)
	}
}

func expectAll(t *testing.T, number int, want ...string) {
	t.Helper()
	if got := words.All(number); !slices.Equal(got, want) {
		t.Errorf("All(%d) = %q, not %q", number, got, want)
	}
}

func TestExamples(t *testing.T) {
	expectShort(t, 1, "STREET", "ST", true)
	expectShort(t, 1, "ST", "ST", true)
	expectShort(t, 1, "street", "", false)
	expectShort(t, 3, "ST", "", false)
	expectLong(t, 3, "NY", "NEW YORK", true)
	expectLong(t, 3, "NEW YORK", "", false)
	expectShort(t, 3, "NEW YORK", "NY", true)
	expectAll(t, 4, "APT", "BLDG", "FL", "RM", "STE", "UNIT")
	expectAll(t, 2, "E", "N", "NE", "NW", "S", "SE", "SW", "W")
	expectAll(t, 5)
}

func TestAllOfTheGreaterKinds(t *testing.T) {
	expectAll(t, 1, "ALY", "AVE", "BLVD", "CIR", "CT", "DR", "EXPY", "HWY", "LN", "LOOP", "PKWY", "PL", "PLZ", "RD", "ROW", "SQ", "ST", "TER", "TRL", "WAY")
	expectAll(t, 3, strings.Fields("AK AL AR AZ CA CO CT DC DE FL GA HI IA ID IL IN KS KY LA MA MD ME MI MN MO MS MT NC ND NE NH NJ NM NV NY OH OK OR PA RI SC SD TN TX UT VA VT WA WI WV WY")...)
}

// TestWordsOfOneKind has words that are their own short form, that are no other kind's, and those that two kinds share.
func TestWordsOfOneKind(t *testing.T) {
	for _, own := range []string{"LOOP", "ROW", "WAY"} {
		expectShort(t, api.WordSuffix, own, own, true)
		expectLong(t, api.WordSuffix, own, own, true)
	}
	expectShort(t, api.WordUnit, "UNIT", "UNIT", true)
	expectLong(t, api.WordUnit, "UNIT", "UNIT", true)
	expectLong(t, api.WordUnit, "FL", "FLOOR", true)
	expectLong(t, api.WordState, "FL", "FLORIDA", true)
	expectLong(t, api.WordDirection, "NE", "NORTHEAST", true)
	expectLong(t, api.WordState, "NE", "NEBRASKA", true)
	expectLong(t, api.WordSuffix, "CT", "COURT", true)
	expectLong(t, api.WordState, "CT", "CONNECTICUT", true)
	expectShort(t, api.WordState, "FLOOR", "", false)
	expectShort(t, api.WordUnit, "FLORIDA", "", false)
	expectShort(t, api.WordDirection, "NEBRASKA", "", false)
	expectShort(t, api.WordSuffix, "CONNECTICUT", "", false)
	expectLong(t, api.WordSuffix, "STREET", "", false)
	expectLong(t, api.WordDirection, "NORTH", "", false)
	expectLong(t, api.WordUnit, "APARTMENT", "", false)
	expectShort(t, api.WordState, "DISTRICT OF COLUMBIA", "DC", true)
}

// TestEveryWordInEveryKind: the words of the other kinds are wrong inputs.
func TestEveryWordInEveryKind(t *testing.T) {
	for _, text := range known() {
		for _, k := range kinds {
			k.check(t, text)
		}
	}
}

func TestAllHasEveryShortForm(t *testing.T) {
	for _, k := range kinds {
		expectAll(t, k.number, k.all()...)
	}
}

func TestKindsThatDoNotExist(t *testing.T) {
	texts := append(known(), "", " ", "=", "street")
	for _, number := range noKinds() {
		for _, text := range texts {
			expectShort(t, number, text, "", false)
			expectLong(t, number, text, "", false)
		}
		expectAll(t, number)
	}
}

// changed are texts that differ a little from text; some may be words again.
func changed(text string) []string {
	l := []string{strings.ToLower(text), strings.ToUpper(text[:1]) + strings.ToLower(text[1:]), text + text}
	for at := range len(text) + 1 {
		for _, b := range []string{" ", "\t", "\n", "\x00", "=", "_", ".", "A", "S", "W", "\u00a0", "\xff"} {
			l = append(l, text[:at]+b+text[at:])
			if at < len(text) {
				l = append(l, text[:at]+b+text[at+1:])
			}
		}
		l = append(l, text[:at], text[at:])
		if at < len(text) {
			l = append(l, text[:at]+text[at+1:], text[:at]+string(text[at]|32)+text[at+1:])
		}
	}
	return l
}

func TestTextsThatAreNearlyWords(t *testing.T) {
	for _, text := range known() {
		for _, near := range changed(text) {
			for _, k := range kinds {
				k.check(t, near)
			}
		}
	}
}

func TestTextsThatAreNoWords(t *testing.T) {
	texts := []string{
		"", " ", "  ", "=", "_", ";", " = ", "; ", "\n", "\t\t", "\x00", "\xff", "\u00c9",
		"NEW", "YORK", "OF", "DISTRICT", "DISTRICT OF", "OF COLUMBIA", "COLUMBIA", "WEST  VIRGINIA", "NEWYORK", "NEW-YORK", "NEW_YORK", "NEW\tYORK", "NEW\u00a0YORK",
		"NEW YORK = NY", "NEW YORK=NY", "NEW_YORK=NY", "NEW YORK NY", "NY NEW YORK", "STREET = ST", "STREET=ST", "STREET ST", "ALLEY = ALY; AVENUE = AVE", "ALLEY=ALY AVENUE=AVE", "ALLEY AVENUE",
		"STR", "STRT", "AV", "BD", "WY.", "NORTH EAST", "N E", "N.E.", "PR", "PUERTO RICO", "GU", "VI", "AS", "#", "NO", "0", "1",
		strings.Repeat("A", 1<<20), strings.Repeat("STREET ", 1000), strings.Repeat(" ", 1000),
	}
	for _, text := range texts {
		for _, k := range kinds {
			expectShort(t, k.number, text, "", false)
			expectLong(t, k.number, text, "", false)
		}
	}
}

// TestAllShortTexts has each byte, and each pair of those that a line may have.
func TestAllShortTexts(t *testing.T) {
	for i := range 256 {
		for _, k := range kinds {
			k.check(t, string([]byte{byte(i)}))
		}
	}
	for first := byte(' '); first <= '~'; first++ {
		for second := byte(' '); second <= '~'; second++ {
			for _, k := range kinds {
				k.check(t, string([]byte{first, second}))
			}
		}
	}
}

// TestShortFormsAndLongWords is P16.3.
func TestShortFormsAndLongWords(t *testing.T) {
	for _, k := range kinds {
		longs := map[string]string{}
		for _, short := range words.All(k.number) {
			long, is := words.Long(k.number, short)
			if !is {
				t.Errorf("Long(%d, %q)", k.number, short)
			}
			expectShort(t, k.number, long, short, true)
			expectShort(t, k.number, short, short, true)
			if other, there := longs[long]; there {
				t.Errorf("%q and %q have the long word %q", other, short, long)
			}
			longs[long] = short
		}
		if len(longs) != len(k.longs) {
			t.Errorf("kind %d has %d long words, not %d", k.number, len(longs), len(k.longs))
		}
		for _, long := range k.longs {
			if _, there := longs[long]; !there {
				t.Errorf("no short form of kind %d has the long word %q", k.number, long)
			}
		}
	}
}

func TestAllIsInAscendingOrder(t *testing.T) {
	for _, k := range kinds {
		// The order of a map is another one each time.
		for range 100 {
			l := words.All(k.number)
			for i := 1; i < len(l); i++ {
				if strings.Compare(l[i-1], l[i]) >= 0 {
					t.Errorf("All(%d) has %q ahead of %q", k.number, l[i-1], l[i])
				}
			}
		}
	}
}

// TestAnswersAreNewMemory: what is done to one answer shows in no other, nor in what is answered later.
func TestAnswersAreNewMemory(t *testing.T) {
	for _, k := range kinds {
		first, second := words.All(k.number), words.All(k.number)
		for i := range first[:cap(first)] {
			first[:cap(first)][i] = "?" + strconv.Itoa(i)
		}
		if !slices.Equal(second, k.all()) {
			t.Errorf("All(%d) = %q", k.number, second)
		}
		expectAll(t, k.number, k.all()...)
		for short, long := range k.longs {
			expectShort(t, k.number, long, short, true)
			expectLong(t, k.number, short, long, true)
		}
	}
}

// TestManyWhoAsk: those who ask at once get the same answers.
func TestManyWhoAsk(t *testing.T) {
	var all sync.WaitGroup
	for range 8 {
		all.Go(func() {
			for _, text := range known() {
				for _, k := range kinds {
					k.check(t, text)
				}
			}
		})
	}
	all.Wait()
}
