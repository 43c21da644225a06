package addr_test

import (
	"math"
	"math/rand"
	"regexp"
	"slices"
	"strconv"
	"strings"
	"testing"

	"apportion/addr"
	"apportion/api"
	"apportion/token"
	"apportion/words"
)

// The patterns of tokens in capital letters, as the document defines them.
const (
	anyToken  = `[A-Z0-9]+(?:[-/'.][A-Z0-9]+)*`
	wordToken = `[A-Z][A-Z0-9]*(?:[-/'.][A-Z0-9]+)*`
)

var (
	tokenPattern  = regexp.MustCompile(anyToken + `|#`)
	namePattern   = regexp.MustCompile(`^` + anyToken + `(?: ` + anyToken + `){0,7}$`)
	cityPattern   = regexp.MustCompile(`^` + wordToken + `(?: ` + wordToken + `){0,7}$`)
	numberPattern = regexp.MustCompile(`^[0-9]{1,6}$`)
	placePattern  = regexp.MustCompile(`^[0-9]{5}(?:-[0-9]{4})?$`)
	zipPattern    = regexp.MustCompile(`^[0-9]{5}$`)
	morePattern   = regexp.MustCompile(`^(?:[0-9]{4})?$`)
)

func isName(s string) bool { return len(s) <= 40 && namePattern.MatchString(s) }
func isCity(s string) bool { return len(s) <= 40 && cityPattern.MatchString(s) }

// forms has the short form of each word of each kind that has one, as packages of the layers below know them.
var forms = newForms()

func newForms() map[int]map[string]string {
	all := map[int]map[string]string{}
	for _, kind := range []int{api.WordSuffix, api.WordDirection, api.WordState, api.WordUnit} {
		all[kind] = map[string]string{}
		for _, short := range words.All(kind) {
			long, _ := words.Long(kind, short)
			all[kind][long], all[kind][short] = short, short
		}
	}
	return all
}

// shortOf is the short form of kind that s has, or nothing.
func shortOf(kind int, s string) string { return forms[kind][s] }

// has reports whether s has a short form of kind.
func has(kind int, s string) bool { return shortOf(kind, s) != "" }

// isShort reports whether s is a short form of kind.
func isShort(kind int, s string) bool { return s != "" && shortOf(kind, s) == s }

// isUnit reports whether l is the tokens of a unit.
func isUnit(l []string) bool {
	return len(l) == 2 && (l[0] == "#" || has(api.WordUnit, l[0])) && l[1] != "#"
}

// unitText is the text of the tokens of a unit.
func unitText(l []string) string {
	if l[0] == "#" {
		return "#" + l[1]
	}
	return shortOf(api.WordUnit, l[0]) + " " + l[1]
}

// modelStreet is how the document reads a street behind its number; the unit within it as tokens.
func modelStreet(l []string, ofThree bool) (a api.Addr, unit []string) {
	if len(l) > 0 && l[0] == "1/2" {
		a.Half, l = true, l[1:]
	}
	if n := len(l); ofThree && n > 2 && isUnit(l[n-2:]) {
		l, unit = l[:n-2], l[n-2:]
	}
	if n := len(l); n >= 2 && has(api.WordDirection, l[n-1]) {
		l, a.Post = l[:n-1], shortOf(api.WordDirection, l[n-1])
	}
	if n := len(l); n >= 2 && has(api.WordSuffix, l[n-1]) {
		l, a.Suffix = l[:n-1], shortOf(api.WordSuffix, l[n-1])
	}
	if n := len(l); n >= 2 && has(api.WordDirection, l[0]) {
		a.Pre, l = shortOf(api.WordDirection, l[0]), l[1:]
	}
	a.Name = strings.Join(l, " ")
	return a, unit
}

// modelParse is what Parse ought to answer.
func modelParse(s string) (api.Addr, api.Fault) {
	if _, f := token.Tokens(s); f.Err != api.OK {
		return api.Addr{}, f
	}
	var parts [][]string
	empty := false
	for _, part := range strings.Split(strings.ToUpper(s), ",") {
		l := tokenPattern.FindAllString(part, -1)
		parts, empty = append(parts, l), empty || len(l) == 0
	}
	n := len(parts)
	if n < 3 || n > 4 || empty {
		return api.Addr{}, api.Fault{Err: api.ErrParts}
	}
	number, city, place := parts[0][0], strings.Join(parts[n-2], " "), parts[n-1]
	zip := place[len(place)-1]
	a, unit := modelStreet(parts[0][1:], n == 3)
	if n == 4 {
		unit = parts[1]
	}
	a.City, a.State = city, shortOf(api.WordState, strings.Join(place[:len(place)-1], " "))
	a.Zip, a.More, _ = strings.Cut(zip, "-")
	a.Number, _ = strconv.Atoi(number)

	switch {
	case !numberPattern.MatchString(number) || a.Number == 0:
		return api.Addr{}, api.Fault{Err: api.ErrNumber}
	case n == 4 && !isUnit(unit):
		return api.Addr{}, api.Fault{Err: api.ErrUnit, At: 1}
	case unit != nil && len(unit[1]) > 10:
		return api.Addr{}, api.Fault{Err: api.ErrUnit, At: n - 3}
	case !isName(a.Name):
		return api.Addr{}, api.Fault{Err: api.ErrStreet}
	case !isCity(city):
		return api.Addr{}, api.Fault{Err: api.ErrCity, At: n - 2}
	case !placePattern.MatchString(zip):
		return api.Addr{}, api.Fault{Err: api.ErrZip, At: n - 1}
	case a.State == "":
		return api.Addr{}, api.Fault{Err: api.ErrPlace, At: n - 1}
	}
	if unit != nil {
		a.Unit = unitText(unit)
	}
	return a, api.Fault{}
}

// isUnitText reports whether s is the tokens of a unit as a text.
func isUnitText(s string) bool {
	l := tokenPattern.FindAllString(s, -1)
	return isUnit(l) && unitText(l) == s && len(l[1]) <= 10
}

// modelValid is the document's definition of an address that is valid.
func modelValid(a api.Addr) bool {
	fields := a.Number >= 1 && a.Number <= 999999 && isName(a.Name) && isCity(a.City) &&
		(a.Pre == "" || isShort(api.WordDirection, a.Pre)) &&
		(a.Post == "" || isShort(api.WordDirection, a.Post)) &&
		(a.Suffix == "" || isShort(api.WordSuffix, a.Suffix)) &&
		isShort(api.WordState, a.State) &&
		(a.Unit == "" || isUnitText(a.Unit)) &&
		zipPattern.MatchString(a.Zip) && morePattern.MatchString(a.More)
	if !fields {
		return false
	}
	half := ""
	if a.Half {
		half = "1/2 "
	}
	l := strings.Fields(half + a.Pre + " " + a.Name + " " + a.Suffix + " " + a.Post)
	again, unit := modelStreet(l, a.Unit == "")
	street := api.Addr{Half: a.Half, Pre: a.Pre, Name: a.Name, Suffix: a.Suffix, Post: a.Post}
	return again == street && unit == nil
}

// modelText is the text of an address.
func modelText(a api.Addr) string {
	s := strconv.Itoa(a.Number)
	if a.Half {
		s += " 1/2"
	}
	for _, x := range []string{a.Pre, a.Name, a.Suffix, a.Post} {
		s += strings.TrimSuffix(" "+x, " ")
	}
	if a.Unit != "" {
		s += ", " + a.Unit
	}
	s += ", " + a.City + ", " + a.State + " " + a.Zip
	if a.More != "" {
		s += "-" + a.More
	}
	return s
}

// checkParse holds Parse and Normal against the model, and what is parsed against the theorem.
func checkParse(t *testing.T, s string) api.Fault {
	t.Helper()
	want, fault := modelParse(s)
	if a, f := addr.Parse(s); a != want || f != fault {
		t.Errorf("Parse(%q) = %+v, %v, not %+v, %v", s, a, f, want, fault)
	}
	text := ""
	if fault.Err == api.OK {
		text = modelText(want)
		checkValid(t, want)
	}
	if got, f := addr.Normal(s); got != text || f != fault {
		t.Errorf("Normal(%q) = %q, %v, not %q, %v", s, got, f, text, fault)
	}
	return fault
}

// checkValid: a is valid, and its text is its own.
func checkValid(t *testing.T, a api.Addr) {
	t.Helper()
	if e := addr.Check(a); e != api.OK {
		t.Errorf("Check(%+v) = %v", a, e)
	}
	text, e := addr.Text(a)
	if text != modelText(a) || e != api.OK {
		t.Errorf("Text(%+v) = %q, %v", a, text, e)
	}
	if again, f := addr.Parse(text); again != a || f != (api.Fault{}) {
		t.Errorf("Parse(%q) = %+v, %v, not %+v", text, again, f, a)
	}
	if again, f := addr.Normal(text); again != text || f != (api.Fault{}) {
		t.Errorf("Normal(%q) = %q, %v", text, again, f)
	}
}

func checkRefused(t *testing.T, a api.Addr) {
	t.Helper()
	if e := addr.Check(a); e != api.ErrArg {
		t.Errorf("Check(%+v) = %v", a, e)
	}
	if text, e := addr.Text(a); text != "" || e != api.ErrArg {
		t.Errorf("Text(%+v) = %q, %v", a, text, e)
	}
}

// check holds Check and Text against the model.
func check(t *testing.T, a api.Addr) bool {
	t.Helper()
	is := modelValid(a)
	if is {
		checkValid(t, a)
	} else {
		checkRefused(t, a)
	}
	return is
}

func expectNormal(t *testing.T, s, want string) {
	t.Helper()
	if got, f := addr.Normal(s); got != want || f != (api.Fault{}) {
		t.Errorf("Normal(%q) = %q, %v, not %q", s, got, f, want)
	}
	checkParse(t, s)
}

func expectFault(t *testing.T, s string, e api.Errno, at int) {
	t.Helper()
	fault := api.Fault{Err: e, At: at}
	if a, f := addr.Parse(s); a != (api.Addr{}) || f != fault {
		t.Errorf("Parse(%q) = %+v, %v, not %v", s, a, f, fault)
	}
	if text, f := addr.Normal(s); text != "" || f != fault {
		t.Errorf("Normal(%q) = %q, %v, not %v", s, text, f, fault)
	}
}

// expectStreet has an address of a street alone, and of the same one with a unit as a part of its own.
func expectStreet(t *testing.T, street string, want api.Addr) {
	t.Helper()
	want.City, want.State, want.Zip = "A", "NY", "10001"
	if a, f := addr.Parse(street + ", A, NY 10001"); a != want || f != (api.Fault{}) {
		t.Errorf("%q is %+v, %v, not %+v", street, a, f, want)
	}
	want.Unit = "#9"
	if a, f := addr.Parse(street + ", #9, A, NY 10001"); a != want || f != (api.Fault{}) {
		t.Errorf("%q with a unit is %+v, %v, not %+v", street, a, f, want)
	}
}

func TestExamples(t *testing.T) {
	expectNormal(t, "12 north main street apt 4, Springfield, Illinois 62701", "12 N MAIN ST, APT 4, SPRINGFIELD, IL 62701")
	expectNormal(t, "7 1/2 Avenue N, #b, New York, new york 10001-0002", "7 1/2 AVENUE N, #B, NEW YORK, NY 10001-0002")
	expectStreet(t, "1 North St", api.Addr{Number: 1, Name: "NORTH", Suffix: "ST"})
	expectFault(t, "1 A, NY 10001", api.ErrParts, 0)
	expectFault(t, "x, A, NY 10001", api.ErrNumber, 0)
	expectFault(t, "1 A, 2, NY 10001", api.ErrCity, 1)
	expectFault(t, "1 A, B, NX 10001", api.ErrPlace, 2)
	expectFault(t, "1 A, B, NY 1", api.ErrZip, 2)
	checkRefused(t, api.Addr{Number: 1, Name: "MAIN ST", City: "A", State: "NY", Zip: "10001"})
}

func TestAllFields(t *testing.T) {
	want := api.Addr{
		Number: 123456, Half: true, Pre: "NW", Name: "O'NEIL'S 1ST", Suffix: "BLVD", Post: "SE",
		Unit: "STE 12-B", City: "ST. LOUIS", State: "DC", Zip: "00501", More: "0009",
	}
	s := "123456 1/2 northwest O'Neil's 1st. boulevard southeast, suite 12-b, st. louis, district of columbia 00501-0009"
	want.City = "ST LOUIS"
	if a, f := addr.Parse(s); a != want || f != (api.Fault{}) {
		t.Errorf("Parse = %+v, %v, not %+v", a, f, want)
	}
	checkParse(t, s)
	checkValid(t, want)
	expectNormal(t, s, "123456 1/2 NW O'NEIL'S 1ST BLVD SE, STE 12-B, ST LOUIS, DC 00501-0009")
}

func TestStreets(t *testing.T) {
	main := api.Addr{Number: 1, Name: "MAIN"}
	with := func(change func(a *api.Addr)) api.Addr {
		a := main
		change(&a)
		return a
	}
	expectStreet(t, "1 main", main)
	expectStreet(t, "1 n main", with(func(a *api.Addr) { a.Pre = "N" }))
	expectStreet(t, "1 main n", with(func(a *api.Addr) { a.Post = "N" }))
	expectStreet(t, "1 main road", with(func(a *api.Addr) { a.Suffix = "RD" }))
	expectStreet(t, "1 main rd west", with(func(a *api.Addr) { a.Suffix, a.Post = "RD", "W" }))
	expectStreet(t, "1 east main rd west", with(func(a *api.Addr) { a.Pre, a.Suffix, a.Post = "E", "RD", "W" }))
	expectStreet(t, "1 1/2 main", with(func(a *api.Addr) { a.Half = true }))
	// A suffix ahead of the name, or one behind a direction, is part of the name.
	expectStreet(t, "1 street main", with(func(a *api.Addr) { a.Name = "STREET MAIN" }))
	expectStreet(t, "1 main rd w n", with(func(a *api.Addr) { a.Name, a.Post = "MAIN RD W", "N" }))
	expectStreet(t, "1 n s main", with(func(a *api.Addr) { a.Pre, a.Name = "N", "S MAIN" }))
	expectStreet(t, "1 main st ave", with(func(a *api.Addr) { a.Name, a.Suffix = "MAIN ST", "AVE" }))
	expectStreet(t, "1 main street avenue", with(func(a *api.Addr) { a.Name, a.Suffix = "MAIN STREET", "AVE" }))
	// A half is one only directly behind the number.
	expectStreet(t, "1 1/2 1/2", with(func(a *api.Addr) { a.Half, a.Name = true, "1/2" }))
	expectStreet(t, "1 n 1/2 main", with(func(a *api.Addr) { a.Pre, a.Name = "N", "1/2 MAIN" }))
	expectStreet(t, "1 main 1/2", with(func(a *api.Addr) { a.Name = "MAIN 1/2" }))
	expectStreet(t, "1 1/3 main", with(func(a *api.Addr) { a.Name = "1/3 MAIN" }))
	expectStreet(t, "1 1-2 main", with(func(a *api.Addr) { a.Name = "1-2 MAIN" }))
}

// TestNamesOfWordsThatAreMore: one token is always left for the name.
func TestNamesOfWordsThatAreMore(t *testing.T) {
	expectStreet(t, "1 n", api.Addr{Number: 1, Name: "N"})
	expectStreet(t, "1 north", api.Addr{Number: 1, Name: "NORTH"})
	expectStreet(t, "1 street", api.Addr{Number: 1, Name: "STREET"})
	expectStreet(t, "1 1/2 st", api.Addr{Number: 1, Half: true, Name: "ST"})
	expectStreet(t, "1 n n", api.Addr{Number: 1, Name: "N", Post: "N"})
	expectStreet(t, "1 n n n", api.Addr{Number: 1, Pre: "N", Name: "N", Post: "N"})
	expectStreet(t, "1 st st", api.Addr{Number: 1, Name: "ST", Suffix: "ST"})
	expectStreet(t, "1 st n", api.Addr{Number: 1, Name: "ST", Post: "N"})
	expectStreet(t, "1 n st n", api.Addr{Number: 1, Name: "N", Suffix: "ST", Post: "N"})
	expectStreet(t, "1 n n st n", api.Addr{Number: 1, Pre: "N", Name: "N", Suffix: "ST", Post: "N"})
	expectStreet(t, "1 apt 4", api.Addr{Number: 1, Name: "APT 4"})
	expectStreet(t, "1 1/2 apt 4", api.Addr{Number: 1, Half: true, Name: "APT 4"})
	expectStreet(t, "1 7", api.Addr{Number: 1, Name: "7"})
}

func TestNumbers(t *testing.T) {
	for _, s := range []string{"1", "9", "10", "999999", "100000"} {
		expectNormal(t, s+" A, B, NY 10001", s+" A, B, NY 10001")
	}
	// The document asks for digits alone, and for their number.
	for _, s := range []string{"7", "07", "000007"} {
		expectNormal(t, s+" A, B, NY 10001", "7 A, B, NY 10001")
	}
	for _, s := range []string{"0", "00", "000000", "0000007", "1000000", "9999999", "99999999999999999999", "1a", "1-2", "1/2", "1.5", "a", "a1", "#", "n", "apt"} {
		expectFault(t, s+" A, B, NY 10001", api.ErrNumber, 0)
		expectFault(t, s+", B, NY 10001", api.ErrNumber, 0)
	}
	// What is not a word byte is no part of the number.
	expectNormal(t, "-7 A, B, NY 10001", "7 A, B, NY 10001")
	expectNormal(t, "+7. A, B, NY 10001", "7 A, B, NY 10001")
}

func TestUnits(t *testing.T) {
	for _, long := range []string{"apartment", "building", "floor", "room", "suite", "unit"} {
		short, _ := words.Short(api.WordUnit, strings.ToUpper(long))
		for _, second := range []string{"4", "b", "4b", "12-1/2", "1234567890", "abcdefghij", "n", "apt", "st", "1/2"} {
			want := "1 MAIN ST, " + short + " " + strings.ToUpper(second) + ", B, NY 10001"
			for _, ahead := range []string{long, short, strings.ToUpper(long)} {
				expectNormal(t, "1 Main St "+ahead+" "+second+", B, NY 10001", want)
				expectNormal(t, "1 Main St, "+ahead+" "+second+", B, NY 10001", want)
			}
		}
	}
	for _, unit := range []string{"#b", "# b", "#  B.", "#-b-"} {
		expectNormal(t, "1 Main "+unit+", B, NY 10001", "1 MAIN, #B, B, NY 10001")
		expectNormal(t, "1 Main, "+unit+", B, NY 10001", "1 MAIN, #B, B, NY 10001")
	}
}

func TestUnitsWithinStreets(t *testing.T) {
	expectNormal(t, "1 a #4, B, NY 10001", "1 A, #4, B, NY 10001")
	expectNormal(t, "1 1/2 a apt 4, B, NY 10001", "1 1/2 A, APT 4, B, NY 10001")
	expectNormal(t, "1 apt 3 apt 4, B, NY 10001", "1 APT 3, APT 4, B, NY 10001")
	expectNormal(t, "1 apt 3, apt 4, B, NY 10001", "1 APT 3, APT 4, B, NY 10001")
	expectNormal(t, "1 main apt 3, apt 4, B, NY 10001", "1 MAIN APT 3, APT 4, B, NY 10001")
	expectNormal(t, "1 main apt apt 4, B, NY 10001", "1 MAIN APT, APT 4, B, NY 10001")
	// A unit ahead of other words is part of the name.
	expectNormal(t, "1 apt 4 main, B, NY 10001", "1 APT 4 MAIN, B, NY 10001")
	expectNormal(t, "1 main apt 4 st, B, NY 10001", "1 MAIN APT 4 ST, B, NY 10001")
	// A unit comes ahead of a direction and a suffix.
	expectNormal(t, "1 main apt north, B, NY 10001", "1 MAIN, APT NORTH, B, NY 10001")
	expectNormal(t, "1 main unit street, B, NY 10001", "1 MAIN, UNIT STREET, B, NY 10001")
	expectNormal(t, "1 street west apt 4, B, NY 10001", "1 STREET W, APT 4, B, NY 10001")
}

func TestUnitFaults(t *testing.T) {
	for _, unit := range []string{"4", "apt", "#", "apt 4 b", "#4b 5", "# #", "apt #", "apt # 4", "x 4", "4 apt", "st 4", "n 4", "ny 4", "4 5", "apt#4", "# # 4", "apt-4", "ap t4"} {
		expectFault(t, "1 Main, "+unit+", B, NY 10001", api.ErrUnit, 1)
	}
	for _, unit := range []string{"#", "apt #", "x # 4 5", "# #", "apt # #"} {
		expectFault(t, "1 Main "+unit+", B, NY 10001", api.ErrStreet, 0)
	}
	for _, long := range []string{"12345678901", "abcdefghijk", "12345-67890", strings.Repeat("x", 100)} {
		for _, ahead := range []string{"#", "apt ", "building "} {
			expectFault(t, "1 Main "+ahead+long+", B, NY 10001", api.ErrUnit, 0)
			expectFault(t, "1 Main, "+ahead+long+", B, NY 10001", api.ErrUnit, 1)
		}
	}
	// With two tokens left, a long word is part of the name; a long first token is no matter of the unit.
	expectNormal(t, "1 apt 12345678901, B, NY 10001", "1 APT 12345678901, B, NY 10001")
	expectNormal(t, "1 a apartmentxxxxxxx 4, B, NY 10001", "1 A APARTMENTXXXXXXX 4, B, NY 10001")
}

func TestParts(t *testing.T) {
	for _, s := range []string{
		"", " ", ",", ",,", ",,,", "1 A", "1 A, B", "1 A, NY 10001", "1 A B NY 10001", ", A, NY 10001", "1 A, , NY 10001", "1 A, B,", "1 A, B, -", ".., B, NY 10001",
		"1 A,, B, NY 10001", "1 A, #4,, NY 10001", ", #4, B, NY 10001", "1 A, #4, B, ", "1 A, B, NY 10001,", ", 1 A, B, NY 10001",
		"1 A, #4, B, C, NY 10001", "1 A, #4, B, NY 10001, USA", "1 A, #4, B, NY, 10001", strings.Repeat("a,", 19), strings.Repeat(",", 40),
	} {
		expectFault(t, s, api.ErrParts, 0)
		checkParse(t, s)
	}
	// Three parts and four count the faults of the others.
	expectFault(t, "1 A, B, NY, 10001", api.ErrUnit, 1)
	expectFault(t, "1 A, #4, B, 10001", api.ErrPlace, 3)
	expectFault(t, "1 A, #4, NY 10001", api.ErrCity, 1)
}

func TestNames(t *testing.T) {
	for _, name := range []string{
		strings.Repeat("A", 40), "A A A A A A A A", "1 2 3 4 5 6 7 8", strings.Repeat("AAAA ", 7) + "AAAAA", "1ST", "O'NEIL", "A-B/C.D'E", "9",
	} {
		expectNormal(t, "1 "+name+", B, NY 10001", "1 "+name+", B, NY 10001")
		expectNormal(t, "1 1/2 n "+name+" st n #4, B, NY 10001", "1 1/2 N "+name+" ST N, #4, B, NY 10001")
		expectNormal(t, "1 1/2 n "+name+" st n, #4, B, NY 10001", "1 1/2 N "+name+" ST N, #4, B, NY 10001")
	}
	for _, name := range []string{
		strings.Repeat("A", 41), "A A A A A A A A A", strings.Repeat("AAAA ", 7) + "AAAAAA", strings.Repeat("1", 100), "# A", "A # A A", "#", "A #", "A #B C",
	} {
		expectFault(t, "1 "+name+", B, NY 10001", api.ErrStreet, 0)
		expectFault(t, "1 n "+name+" st n, #4, B, NY 10001", api.ErrStreet, 0)
	}
	for _, street := range []string{"1", "1 1/2", " 1 -"} {
		expectFault(t, street+", B, NY 10001", api.ErrStreet, 0)
		expectFault(t, street+", apt 4, B, NY 10001", api.ErrStreet, 0)
	}
}

func TestCities(t *testing.T) {
	for _, city := range []string{
		"A", strings.Repeat("A", 40), "A A A A A A A A", strings.Repeat("AAAA ", 7) + "AAAAA", "NEW YORK", "NORTH ST APT", "O'FALLON", "A1", "A-1.B",
	} {
		expectNormal(t, "1 A, "+city+", NY 10001", "1 A, "+city+", NY 10001")
		expectNormal(t, "1 A, #4, "+city+", NY 10001", "1 A, #4, "+city+", NY 10001")
	}
	for _, city := range []string{
		strings.Repeat("A", 41), "A A A A A A A A A", strings.Repeat("AAAA ", 7) + "AAAAAA", "1", "1ST", "A 1", "1 A", "A 1/2 B", "#", "A #", "# A", "#4",
	} {
		expectFault(t, "1 A, "+city+", NY 10001", api.ErrCity, 1)
		expectFault(t, "1 A, #4, "+city+", NY 10001", api.ErrCity, 2)
	}
}

func TestPlaces(t *testing.T) {
	for _, short := range words.All(api.WordState) {
		long, _ := words.Long(api.WordState, short)
		for _, state := range []string{short, long, strings.ToLower(long), strings.ReplaceAll(long, " ", " \t ")} {
			expectNormal(t, "1 A, B, "+state+" 00000", "1 A, B, "+short+" 00000")
			expectNormal(t, "1 A, #4, B, "+state+" 99999-9999", "1 A, #4, B, "+short+" 99999-9999")
		}
	}
	for _, zip := range []string{"NY", "1", "1234", "123456", "1234a", "a1234", "12345-1", "12345-123", "12345-12345", "1234-1234", "123456-1234", "12345-123a", "1234a-1234", "12345/1234", "12345.1234", "12345-1234-1234", "123451234", "NY-12345", "#", "12345 1234", "12345 -1234", "12345 #"} {
		expectFault(t, "1 A, B, NY "+zip, api.ErrZip, 2)
		expectFault(t, "1 A, #4, B, NY "+zip, api.ErrZip, 3)
	}
	// A - at the end is no word byte.
	expectNormal(t, "1 A, B, NY 12345-", "1 A, B, NY 12345")
	expectNormal(t, "1 A, B, NY 12345-1234-", "1 A, B, NY 12345-1234")
	for _, state := range []string{"", "NX", "N Y", "N.Y.", "N.Y", "NEW-YORK", "NEWYORK", "NEW", "YORK", "NEW YORK NY", "NY NY", "NORTH", "ST", "APT", "#", "NY #", "# NY", "12345", "NY 12345", "1"} {
		expectFault(t, "1 A, B, "+state+" 12345", api.ErrPlace, 2)
		expectFault(t, "1 A, #4, B, "+state+" 12345-1234", api.ErrPlace, 3)
	}
}

func TestFaultsOfLines(t *testing.T) {
	good := "1 A, B, NY 10001"
	expectFault(t, "\n", api.ErrBytes, 0)
	expectFault(t, good+"\n", api.ErrBytes, len(good))
	expectFault(t, "1 Caf\xc3\xa9, B, NY 10001", api.ErrBytes, 5)
	expectNormal(t, good+strings.Repeat(" ", 200-len(good)), good)
	expectFault(t, good+strings.Repeat(" ", 201-len(good)), api.ErrLong, 0)
	expectFault(t, strings.Repeat("\n", 201), api.ErrLong, 0)
	expectFault(t, strings.Repeat("1", 1<<20), api.ErrLong, 0)
	expectFault(t, strings.Repeat("a ", 50), api.ErrFull, 80)
	expectFault(t, "1"+strings.Repeat(" A", 33)+", B, NY 10001", api.ErrStreet, 0)
	expectFault(t, "1"+strings.Repeat(" A", 35)+", B, NY 10001", api.ErrFull, 79)
}

// TestOrderOfFaults has each choice of faults at once.
func TestOrderOfFaults(t *testing.T) {
	pieces := [][]string{
		{"12 ", "x "}, {"", "apt 4,", "apt,", "apt 12345678901,"}, {"Main St", "Main # St"}, {"", "apt 12345678901"}, {"A", "1"}, {"NY ", "NX "}, {"10001", "1"},
	}
	seen := map[api.Errno]int{}
	var choose func(chosen []string)
	choose = func(chosen []string) {
		if n := len(chosen); n < len(pieces) {
			for _, piece := range pieces[n] {
				choose(append(slices.Clone(chosen), piece))
			}
			return
		}
		street := chosen[0] + chosen[2] + " " + chosen[3]
		f := checkParse(t, street+","+chosen[1]+chosen[4]+","+chosen[5]+chosen[6])
		seen[f.Err]++
	}
	choose(nil)
	for _, e := range []api.Errno{api.OK, api.ErrNumber, api.ErrUnit, api.ErrStreet, api.ErrCity, api.ErrPlace, api.ErrZip} {
		if seen[e] == 0 {
			t.Errorf("no text had %v: %v", e, seen)
		}
	}
	expectFault(t, "x apt 12345678901, 1, NX 1", api.ErrNumber, 0)
	expectFault(t, "1 # apt 12345678901, 1, NX 1", api.ErrUnit, 0)
	expectFault(t, "1 #, apt, 1, NX 1", api.ErrUnit, 1)
	expectFault(t, "1 #, apt 12345678901, 1, NX 1", api.ErrUnit, 1)
	expectFault(t, "1 #, apt 4, 1, NX 1", api.ErrStreet, 0)
	expectFault(t, "1 A, 1, NX 1", api.ErrCity, 1)
	expectFault(t, "1 A, B, NX 1", api.ErrZip, 2)
	expectFault(t, "x, , 1, NX 1", api.ErrParts, 0)
}

// vocabulary is words and signs by which a street may be read in more than one way.
func vocabulary() []string {
	return []string{"main", "n", "west", "street", "apt", "#", "4", "1/2", "12345678901"}
}

// TestAllShortStreets has each street of up to four tokens of the vocabulary, with and without a unit of its own.
func TestAllShortStreets(t *testing.T) {
	streets := []string{"7"}
	for range 5 {
		var longer []string
		for _, street := range streets {
			checkParse(t, street+", A, NY 10001")
			checkParse(t, street+", #9, A, NY 10001")
			for _, word := range vocabulary() {
				longer = append(longer, street+" "+word)
			}
		}
		streets = longer
	}
}

func pick(r *rand.Rand, l ...string) string { return l[r.Intn(len(l))] }

// some joins up to so many of the words.
func some(r *rand.Rand, most int, l ...string) string {
	var chosen []string
	for range r.Intn(most + 1) {
		chosen = append(chosen, pick(r, l...))
	}
	return strings.Join(chosen, " ")
}

// TestRandomTexts has texts that are nearly addresses.
func TestRandomTexts(t *testing.T) {
	r := rand.New(rand.NewSource(1))
	faults := map[api.Errno]int{}
	for range 20000 {
		parts := []string{pick(r, "1", "12", "007", "999999", "12", "1", "0", "a") + " " + some(r, 11, vocabulary()...)}
		if r.Intn(3) == 0 {
			parts = append(parts, pick(r, "apt 4", "#4", "#b", "unit 1234567890", "apt", "# #"))
		}
		parts = append(parts, some(r, 9, "new", "york", "abcdefgh", "A", "O'B")+pick(r, "x", "y", " 7"))
		parts = append(parts, pick(r, "NY", "new york", "New  Mexico", "west virginia", "N Y")+" "+pick(r, "10001", "00000-9999", "87001", "1234"))
		for r.Intn(20) == 0 {
			parts = append(parts, "x")
		}
		b := []byte(strings.Join(parts, ","))
		for r.Intn(8) == 0 {
			b[r.Intn(len(b))] = byte(r.Intn(128))
		}
		faults[checkParse(t, string(b)).Err]++
	}
	for _, e := range []api.Errno{api.OK, api.ErrBytes, api.ErrParts, api.ErrNumber, api.ErrUnit, api.ErrStreet, api.ErrCity, api.ErrPlace, api.ErrZip} {
		if faults[e] < 50 {
			t.Error(e, faults)
		}
	}
}

// TestAnyBytes: no text is too strange to get an answer.
func TestAnyBytes(t *testing.T) {
	r := rand.New(rand.NewSource(2))
	for range 20000 {
		b := make([]byte, r.Intn(60))
		for i := range b {
			b[i] = pick(r, "aN1,# -/.\t", "0123456789", ",,,   ###")[r.Intn(9)]
			if r.Intn(100) == 0 {
				b[i] = byte(r.Intn(256))
			}
		}
		checkParse(t, string(b))
	}
}

func plain() api.Addr {
	return api.Addr{Number: 1, Pre: "N", Name: "MAIN", Suffix: "ST", Unit: "APT 4", City: "A B", State: "NY", Zip: "10001", More: "0002"}
}

// TestCheckOfStreets has the fields that are read together in each combination.
func TestCheckOfStreets(t *testing.T) {
	directions := []string{"", "N", "SW", "NORTH", "n", "ST", " "}
	suffixes := []string{"", "ST", "ROW", "STREET", "N"}
	units := []string{"", "APT 4", "#B"}
	names := []string{
		"", "MAIN", "N", "NORTH", "ST", "1/2", "APT", "APT 4", "# 4", "#", "N MAIN", "MAIN N", "MAIN ST", "ST MAIN", "MAIN APT 4", "MAIN APT", "1/2 MAIN", "MAIN 1/2",
		"N N", "ST ST", "MAIN UNIT N", "APT ST", "APARTMENT N", "UNIT 4 MAIN", "main", " MAIN", "MAIN ", "MAIN  N", "MAIN,N", "MAIN, APT 4", "7",
	}
	valid := 0
	for _, name := range names {
		for _, pre := range directions {
			for _, post := range directions {
				for _, suffix := range suffixes {
					for _, unit := range units {
						for _, half := range []bool{false, true} {
							a := plain()
							a.Half, a.Pre, a.Name, a.Suffix, a.Post, a.Unit = half, pre, name, suffix, post, unit
							if check(t, a) {
								valid++
							}
						}
					}
				}
			}
		}
	}
	if valid < 500 {
		t.Error(valid)
	}
}

func TestCheckOfStreetsThatReadOtherwise(t *testing.T) {
	refuse := func(change func(a *api.Addr)) {
		t.Helper()
		a := plain()
		change(&a)
		checkRefused(t, a)
	}
	refuse(func(a *api.Addr) { a.Name, a.Suffix = "MAIN ST", "" })
	refuse(func(a *api.Addr) { a.Pre, a.Name = "", "N MAIN" })
	refuse(func(a *api.Addr) { a.Name, a.Suffix = "MAIN N", "" })
	refuse(func(a *api.Addr) { a.Pre, a.Name = "", "1/2 MAIN" })
	refuse(func(a *api.Addr) { a.Name, a.Suffix, a.Unit = "MAIN APT 4", "", "" })
	refuse(func(a *api.Addr) { a.Name, a.Suffix, a.Pre = "", "ST", "" })
	refuse(func(a *api.Addr) { a.Name = "" })
	checkValid(t, api.Addr{Number: 1, Name: "MAIN APT 4", Unit: "APT 4", City: "A", State: "NY", Zip: "10001"})
	checkValid(t, api.Addr{Number: 1, Pre: "N", Name: "1/2 MAIN", City: "A", State: "NY", Zip: "10001"})
	checkValid(t, api.Addr{Number: 1, Half: true, Name: "1/2", City: "A", State: "NY", Zip: "10001"})
	checkValid(t, api.Addr{Number: 1, Name: "APT 4", City: "A", State: "NY", Zip: "10001"})
}

// TestCheckOfOneField has the values of each field that the document names, and those next to them.
func TestCheckOfOneField(t *testing.T) {
	strange := []string{" ", "  ", ",", "#", "\n", "\x00", "\xff", "é", "-", "A,", "A,B", "A#", "A\tB", "a", "A-", "-A", "A_B", "0", "NY 10001", "A, NY 10001", strings.Repeat("A", 1<<20), strings.Repeat("A ", 1000)}
	fields := map[string]struct {
		set    func(a *api.Addr, s string)
		values []string
	}{
		"Name":   {func(a *api.Addr, s string) { a.Name = s }, []string{"A", "1", strings.Repeat("A", 40), strings.Repeat("A", 41), "A A A A A A A A", "A A A A A A A A A", strings.Repeat("AAAA ", 7) + "AAAAA", strings.Repeat("AAAA ", 7) + "AAAAAA", "O'B", "1-2"}},
		"City":   {func(a *api.Addr, s string) { a.City = s }, []string{"", "A", "A1", "1A", "A 1", "NEW YORK", strings.Repeat("A", 40), strings.Repeat("A", 41), "A A A A A A A A", "A A A A A A A A A", strings.Repeat("AAAA ", 7) + "AAAAA", strings.Repeat("AAAA ", 7) + "AAAAAA", "NY", "ST", "apt", "#4", "APT 4"}},
		"Pre":    {func(a *api.Addr, s string) { a.Pre = s }, append(words.All(api.WordDirection), "", "NORTH", "n", "N ", "X", "ST", "1/2", "N N")},
		"Post":   {func(a *api.Addr, s string) { a.Post = s }, append(words.All(api.WordDirection), "", "NORTH", "n", "N ", "X", "ST", "APT 4")},
		"Suffix": {func(a *api.Addr, s string) { a.Suffix = s }, append(words.All(api.WordSuffix), "", "STREET", "st", "ST ", "X", "N", "ST N", "ST ST")},
		"State":  {func(a *api.Addr, s string) { a.State = s }, append(words.All(api.WordState), "", "NEW YORK", "ny", "NY ", "X", "N Y", "NY NY")},
		"Unit":   {func(a *api.Addr, s string) { a.Unit = s }, []string{"", "APT 4", "UNIT 4", "FL 4", "#4", "# 4", "#B-1", "APT", "#", "APT #", "##", "APT 1234567890", "APT 12345678901", "#1234567890", "#12345678901", "APARTMENT 4", "SUITE 4", "APT  4", "apt 4", "APT b", "APT 4 ", "APT 4 5", "X 4", "ST 4", "4", "APT 4, B", "UNIT UNIT", "APT N"}},
		"Zip":    {func(a *api.Addr, s string) { a.Zip = s }, []string{"", "00000", "99999", "1234", "123456", "1234A", "A1234", "12-45", "10001-0002", "1234 ", " 1234", "+1234", "-1234"}},
		"More":   {func(a *api.Addr, s string) { a.More = s }, []string{"", "0000", "9999", "123", "12345", "123A", "1-34", "1234-", "123 "}},
	}
	for name, field := range fields {
		valid, values := 0, append(slices.Clone(strange), field.values...)
		for _, value := range values {
			for _, a := range []api.Addr{plain(), {Number: 1, Name: "MAIN", City: "A", State: "NY", Zip: "10001"}} {
				field.set(&a, value)
				if check(t, a) {
					valid++
				}
			}
		}
		if valid < 2 || valid > 2*len(values)-20 {
			t.Error(name, valid)
		}
	}
}

func TestCheckOfNumbers(t *testing.T) {
	for _, n := range []int{1, 2, 10, 99999, 100000, 999998, 999999} {
		a := plain()
		a.Number = n
		checkValid(t, a)
	}
	for _, n := range []int{0, -1, -7, 1000000, 1000001, 9999999, 1<<32 + 1, math.MaxInt, math.MinInt} {
		a := plain()
		a.Number = n
		checkRefused(t, a)
	}
	checkRefused(t, api.Addr{})
}

// TestTheLongestAddress is far below the limits of a line.
func TestTheLongestAddress(t *testing.T) {
	long := strings.Repeat("AAAA ", 7) + "AAAAA"
	checkValid(t, api.Addr{
		Number: 999999, Half: true, Pre: "NW", Name: long, Suffix: "BLVD", Post: "SE", Unit: "BLDG 1234567890", City: long, State: "NY", Zip: "10001", More: "0002",
	})
}

// randomAddr is an address that is valid.
func randomAddr(r *rand.Rand) api.Addr {
	for {
		a := api.Addr{
			Number: 1 + r.Intn(999999), Half: r.Intn(4) == 0,
			Name: some(r, 4, "MAIN", "OAK", "1ST", "O'B", "N", "ST", "APT", "4", "1/2", "NORTH"), Suffix: pick(r, append(words.All(api.WordSuffix), "", "", "")...),
			Pre: pick(r, append(words.All(api.WordDirection), "", "", "")...), Post: pick(r, append(words.All(api.WordDirection), "", "", "")...),
			City: some(r, 4, "NEW", "YORK", "ST", "N", "B2", "O'B"), State: pick(r, words.All(api.WordState)...), Zip: strconv.Itoa(10000 + r.Intn(90000)),
		}
		if r.Intn(2) == 0 {
			a.More = strconv.Itoa(1000 + r.Intn(9000))
		}
		if r.Intn(2) == 0 {
			a.Unit = pick(r, append(words.All(api.WordUnit), "#")...) + pick(r, " 4", " B", " N", " APT")
			a.Unit = strings.Replace(a.Unit, "# ", "#", 1)
		}
		if modelValid(a) {
			return a
		}
	}
}

// otherForm is a word of kind in one of its forms; nothing stays nothing.
func otherForm(r *rand.Rand, kind int, short string) string {
	long, _ := words.Long(kind, short)
	return pick(r, short, long)
}

// otherwise is the text of an address as others may write it.
func otherwise(r *rand.Rand, a api.Addr) string {
	unit := strings.Fields(strings.Replace(a.Unit, "#", "# ", 1))
	if len(unit) > 0 && unit[0] != "#" {
		unit[0] = otherForm(r, api.WordUnit, unit[0])
	}
	street := []string{strconv.Itoa(a.Number)}
	if a.Half {
		street = append(street, "1/2")
	}
	street = append(street, otherForm(r, api.WordDirection, a.Pre), a.Name, otherForm(r, api.WordSuffix, a.Suffix), otherForm(r, api.WordDirection, a.Post))
	if len(unit) > 0 {
		street = append(street, pick(r, "", ","))
	}
	place := otherForm(r, api.WordState, a.State) + " " + a.Zip
	if a.More != "" {
		place += "-" + a.More
	}
	l := append(street, unit...)
	return strings.Join(append(l, ",", a.City, ",", place), " ")
}

// written is s in capital and small letters, with other blanks.
func written(r *rand.Rand, s string) string {
	var b strings.Builder
	for _, x := range strings.Split(s, "") {
		switch {
		case r.Intn(2) == 0:
			x = strings.ToLower(x)
		case x == " ":
			x = pick(r, " ", "\t", "  ", ". ", " -", "; ")
		}
		b.WriteString(x)
	}
	return b.String()
}

// TestHowItIsWritten is P17.4 and P17.5: however an address is written, it is the same.
func TestHowItIsWritten(t *testing.T) {
	r := rand.New(rand.NewSource(3))
	texts := 0
	for range 3000 {
		a := randomAddr(r)
		checkValid(t, a)
		text, _ := addr.Text(a)
		for range 3 {
			s := written(r, otherwise(r, a))
			if len(s) > 200 {
				continue
			}
			texts++
			if got, f := addr.Parse(s); got != a || f != (api.Fault{}) {
				t.Errorf("Parse(%q) = %+v, %v, not %+v", s, got, f, a)
			}
			if got, f := addr.Normal(s); got != text || f != (api.Fault{}) {
				t.Errorf("Normal(%q) = %q, %v, not %q", s, got, f, text)
			}
		}
	}
	if texts < 8000 {
		t.Error(texts)
	}
}

// TestTextsOfTwoAddresses: no two of them have the same text.
func TestTextsOfTwoAddresses(t *testing.T) {
	r := rand.New(rand.NewSource(4))
	seen := map[string]api.Addr{}
	for range 3000 {
		a := randomAddr(r)
		a.Number, a.City, a.State, a.Zip, a.More = 1, "A", "NY", "10001", ""
		text, e := addr.Text(a)
		if before, there := seen[text]; e != api.OK || there && before != a {
			t.Errorf("%q is %+v and %+v, %v", text, before, a, e)
		}
		seen[text] = a
	}
}
