package money_test

import (
	"math"
	"math/big"
	"math/rand"
	"regexp"
	"slices"
	"strconv"
	"strings"
	"testing"

	"apportion/api"
	"apportion/money"
)

const (
	most     = api.MaxAmount
	least    = math.MinInt
	greatest = math.MaxInt
)

// amounts are edges and ordinary amounts, rising.
func amounts() []int {
	return []int{-most, -most + 1, -1 << 32, -1234567, -1000, -101, -100, -99, -20, -10, -9, -7, -5, -3, -2, -1, 0, 1, 2, 3, 5, 7, 9, 10, 20, 99, 100, 101, 1000, 1234567, 1 << 32, most - 1, most}
}

// noAmounts are ints that are no amounts.
func noAmounts() []int {
	return []int{least, least + 1, -1 << 41, -most - 1, most + 1, 1 << 41, greatest}
}

func rates() []int {
	return []int{0, 1, 2, 7, 62500, 72500, 125000, 333333, 499999, 500000, 500001, 999999, api.MaxRate}
}

func noRates() []int {
	return []int{least, -1, api.MaxRate + 1, most, greatest}
}

func number(n int) *big.Int { return big.NewInt(int64(n)) }

// exactEven returns a * b / c for a c above 0, rounded half to even.
func exactEven(a, b, c int) int {
	product := new(big.Int).Mul(number(a), number(b))
	quotient, rest := new(big.Int).DivMod(product, number(c), new(big.Int))
	side := rest.Lsh(rest, 1).Cmp(number(c))
	if side > 0 || side == 0 && quotient.Bit(0) == 1 {
		quotient.Add(quotient, big.NewInt(1))
	}
	return int(quotient.Int64())
}

func TestCheck(t *testing.T) {
	for _, n := range amounts() {
		if e := money.Check(n); e != api.OK {
			t.Errorf("Check(%d) = %v", n, e)
		}
	}
	for _, n := range noAmounts() {
		if e := money.Check(n); e != api.ErrRange {
			t.Errorf("Check(%d) = %v", n, e)
		}
	}
	for _, n := range rates() {
		if e := money.CheckRate(n); e != api.OK {
			t.Errorf("CheckRate(%d) = %v", n, e)
		}
	}
	for _, n := range noRates() {
		if e := money.CheckRate(n); e != api.ErrRange {
			t.Errorf("CheckRate(%d) = %v", n, e)
		}
	}
}

func TestTaxExamples(t *testing.T) {
	for _, x := range []struct{ amount, rate, want int }{
		{1000, 72500, 72},
		{-1000, 72500, -72},
		{20, 125000, 2},
		{-20, 125000, -2},
		{28, 125000, 4},
		{1, 500000, 0},
		{3, 500000, 2},
		{1, 500001, 1},
		{-1, 500001, -1},
		{0, 72500, 0},
		{1000, 0, 0},
		{most, api.MaxRate, most},
		{-most, api.MaxRate, -most},
	} {
		if got, e := money.Tax(x.amount, x.rate); got != x.want || e != api.OK {
			t.Errorf("Tax(%d, %d) = %d, %v, not %d", x.amount, x.rate, got, e, x.want)
		}
	}
}

func TestTaxIsExact(t *testing.T) {
	for _, amount := range amounts() {
		for _, rate := range rates() {
			want := exactEven(amount, rate, 1000000)
			if got, e := money.Tax(amount, rate); got != want || e != api.OK {
				t.Errorf("Tax(%d, %d) = %d, %v, not %d", amount, rate, got, e, want)
			}
		}
	}
}

func TestTaxOfWhatIsNone(t *testing.T) {
	refused := func(amount, rate int) {
		if got, e := money.Tax(amount, rate); got != 0 || e != api.ErrRange {
			t.Errorf("Tax(%d, %d) = %d, %v", amount, rate, got, e)
		}
	}
	for _, amount := range noAmounts() {
		for _, rate := range append(rates(), noRates()...) {
			refused(amount, rate)
		}
	}
	for _, amount := range amounts() {
		for _, rate := range noRates() {
			refused(amount, rate)
		}
	}
}

func TestTaxTheorems(t *testing.T) {
	for _, rate := range rates() {
		before := -most
		for _, amount := range amounts() {
			tax, _ := money.Tax(amount, rate)
			if tax < min(0, amount) || tax > max(0, amount) {
				t.Errorf("Tax(%d, %d) = %d, which isn't between 0 and the amount", amount, rate, tax)
			}
			if tax < before {
				t.Errorf("Tax(%d, %d) = %d, and %d of a lesser amount", amount, rate, tax, before)
			}
			if negated, _ := money.Tax(-amount, rate); negated != -tax {
				t.Errorf("Tax(%d, %d) = %d, but %d of the negated amount", amount, rate, tax, negated)
			}
			before = tax
		}
	}
}

func TestShareExamples(t *testing.T) {
	for _, x := range []struct{ total, part, whole, want int }{
		{100, 1, 3, 33},
		{100, 2, 3, 67},
		{-100, 2, 3, -67},
		{5, 1, 2, 2},
		{7, 1, 2, 4},
		{-5, 1, 2, -2},
		{5, 0, 2, 0},
		{5, 2, 2, 5},
		{0, 1, 1, 0},
		{most, most, most, most},
		{-most, most - 1, most, -most + 1},
	} {
		if got, e := money.Share(x.total, x.part, x.whole); got != x.want || e != api.OK {
			t.Errorf("Share(%d, %d, %d) = %d, %v, not %d", x.total, x.part, x.whole, got, e, x.want)
		}
	}
}

func TestShareIsExactOrRefused(t *testing.T) {
	numbers := append(amounts(), noAmounts()...)
	for _, total := range numbers {
		for _, part := range numbers {
			for _, whole := range numbers {
				want, wantError := 0, api.OK
				switch {
				case total < -most || total > most:
					wantError = api.ErrRange
				case part < 0 || part > whole || whole < 1 || whole > most:
					wantError = api.ErrArg
				default:
					want = exactEven(total, part, whole)
				}
				if got, e := money.Share(total, part, whole); got != want || e != wantError {
					t.Fatalf("Share(%d, %d, %d) = %d, %v, not %d, %v", total, part, whole, got, e, want, wantError)
				}
			}
		}
	}
}

func TestSplitExamples(t *testing.T) {
	for _, x := range []struct {
		total   int
		weights []int
		want    []int
	}{
		{100, []int{1, 1, 1}, []int{34, 33, 33}},
		{-100, []int{1, 1, 1}, []int{-34, -33, -33}},
		{10, []int{0, 5}, []int{0, 10}},
		{7, []int{3, 1}, []int{5, 2}},
		{5, []int{1, 2, 3}, []int{1, 2, 2}},
		{-5, []int{1, 2, 3}, []int{-1, -2, -2}},
		{2, []int{1, 1, 1, 1}, []int{1, 1, 0, 0}},
		{1, []int{1, 2, 2}, []int{0, 1, 0}},
		{1, []int{0, 0, 1, 0}, []int{0, 0, 1, 0}},
		{0, []int{1, 2}, []int{0, 0}},
		{9, []int{most}, []int{9}},
		{most, []int{most, most}, []int{most/2 + 1, most / 2}},
		{-most, []int{most, 0, most}, []int{-most/2 - 1, 0, -most / 2}},
	} {
		if got, e := money.Split(x.total, x.weights); !slices.Equal(got, x.want) || e != api.OK {
			t.Errorf("Split(%d, %v) = %v, %v, not %v", x.total, x.weights, got, e, x.want)
		}
	}
}

func TestSplitOfEqualWeightsRaisesTheEarlier(t *testing.T) {
	weights := slices.Repeat([]int{most}, 1000)
	for _, total := range []int{1, 13, 999, 1000, 1001, 123456789} {
		got, e := money.Split(total, weights)
		if e != api.OK || len(got) != 1000 {
			t.Fatalf("Split(%d, 1000 weights) has %d parts, %v", total, len(got), e)
		}
		for i, part := range got {
			want := total / 1000
			if i < total%1000 {
				want++
			}
			if part != want {
				t.Fatalf("Split(%d, 1000 weights) has %d at %d, not %d", total, part, i, want)
			}
		}
	}
}

func TestSplitRefuses(t *testing.T) {
	bad := [][]int{nil, {}, {0}, {0, 0, 0}, {1, -1}, {-1, 2}, {least}, {1, most + 1}, {greatest, greatest, 2}, make([]int, 1000), make([]int, 1001), slices.Repeat([]int{1}, 1001)}
	for _, weights := range bad {
		for _, total := range amounts() {
			if got, e := money.Split(total, weights); got != nil || e != api.ErrArg {
				t.Errorf("Split(%d, %d weights) = %v, %v", total, len(weights), got, e)
			}
		}
	}
	// The total is looked at first.
	for _, total := range noAmounts() {
		for _, weights := range append(bad, []int{1, 2}) {
			if got, e := money.Split(total, weights); got != nil || e != api.ErrRange {
				t.Errorf("Split(%d, %d weights) = %v, %v", total, len(weights), got, e)
			}
		}
	}
}

// exactSplit splits as the document says, the greatest rest sought anew for each cent.
func exactSplit(total int, weights []int) []int {
	whole := new(big.Int)
	for _, w := range weights {
		whole.Add(whole, number(w))
	}
	size, direction := total, 1
	if total < 0 {
		size, direction = -total, -1
	}
	parts, rests, remaining := make([]int, len(weights)), make([]*big.Int, len(weights)), size
	for i, w := range weights {
		quotient, rest := new(big.Int).DivMod(new(big.Int).Mul(number(size), number(w)), whole, new(big.Int))
		parts[i], rests[i] = int(quotient.Int64()), rest
		remaining -= parts[i]
	}
	for ; remaining > 0; remaining-- {
		best := 0
		for i := range rests {
			if rests[i].Cmp(rests[best]) > 0 {
				best = i
			}
		}
		parts[best]++
		rests[best] = big.NewInt(-1)
	}
	for i := range parts {
		parts[i] *= direction
	}
	return parts
}

// someWeights are drawn from a small range, so that rests are equal, or from all there are.
func someWeights(r *rand.Rand) []int {
	limit := []int{2, 4, 30, 100000, most + 1}[r.Intn(5)]
	weights := make([]int, 1+r.Intn(24))
	for i := range weights {
		weights[i] = r.Intn(limit)
	}
	weights[r.Intn(len(weights))] = limit - 1
	return weights
}

func TestSplitIsExact(t *testing.T) {
	r := rand.New(rand.NewSource(1))
	for range 3000 {
		weights := someWeights(r)
		for _, total := range []int{r.Intn(40) - 20, r.Intn(2*most+1) - most, most, -most} {
			got, e := money.Split(total, weights)
			if want := exactSplit(total, weights); !slices.Equal(got, want) || e != api.OK {
				t.Fatalf("Split(%d, %v) = %v, %v, not %v", total, weights, got, e, want)
			}
			checkSplit(t, total, weights, got)
		}
	}
}

// checkSplit holds parts against the theorems.
func checkSplit(t *testing.T, total int, weights, parts []int) {
	t.Helper()
	sum, whole := 0, 0
	for i := range parts {
		sum += parts[i]
		whole += weights[i]
	}
	if sum != total {
		t.Fatalf("the parts %v add up to %d, not to %d", parts, sum, total)
	}
	for i, part := range parts {
		exact := new(big.Int).Mul(number(total), number(weights[i]))
		off := exact.Sub(exact, new(big.Int).Mul(number(part), number(whole)))
		if off.CmpAbs(number(whole)) >= 0 {
			t.Fatalf("Split(%d, %v) has %d at %d, which isn't next to the exact proportion", total, weights, part, i)
		}
		for j := range parts {
			if weights[j] > weights[i] && max(parts[j], -parts[j]) < max(part, -part) {
				t.Fatalf("Split(%d, %v) = %v: the greater weight gets less", total, weights, parts)
			}
		}
	}
}

func TestSplitLeavesItsWeightsAsTheyWere(t *testing.T) {
	memory := []int{5, 3, 9, 1, 4, 2, 7}
	before := slices.Clone(memory)
	got, _ := money.Split(100, memory[1:4])
	if !slices.Equal(memory, before) {
		t.Errorf("Split changed its weights, or what lies beside them: %v", memory)
	}
	got = got[:cap(got)]
	for i := range got {
		got[i] = -1
	}
	if !slices.Equal(memory, before) {
		t.Errorf("Split's answer shares its memory with the weights: %v", memory)
	}
}

func TestTextExamples(t *testing.T) {
	for _, x := range []struct {
		amount int
		text   string
	}{
		{0, "0.00"},
		{1, "0.01"},
		{-1, "-0.01"},
		{-5, "-0.05"},
		{10, "0.10"},
		{99, "0.99"},
		{100, "1.00"},
		{-100, "-1.00"},
		{1005, "10.05"},
		{1234567, "12345.67"},
		{-1234567, "-12345.67"},
		{most, "10995116277.75"},
		{-most, "-10995116277.75"},
	} {
		if got, e := money.Text(x.amount); got != x.text || e != api.OK {
			t.Errorf("Text(%d) = %q, %v", x.amount, got, e)
		}
		if got, f := money.Parse(x.text); got != x.amount || f != (api.Fault{}) {
			t.Errorf("Parse(%q) = %d, %v", x.text, got, f)
		}
	}
	for _, n := range noAmounts() {
		if got, e := money.Text(n); got != "" || e != api.ErrRange {
			t.Errorf("Text(%d) = %q, %v", n, got, e)
		}
	}
}

func TestParseReadsWhatTextWrote(t *testing.T) {
	check := func(amount int) {
		text, e := money.Text(amount)
		if e != api.OK {
			t.Fatalf("Text(%d) = %v", amount, e)
		}
		if got, f := money.Parse(text); got != amount || f != (api.Fault{}) {
			t.Fatalf("Parse(%q) = %d, %v, not %d", text, got, f, amount)
		}
	}
	for _, amount := range amounts() {
		check(amount)
	}
	for amount := -20000; amount <= 20000; amount++ {
		check(amount)
	}
	r := rand.New(rand.NewSource(2))
	for range 20000 {
		check(r.Intn(2*most+1) - most)
	}
}

func TestParseRefuses(t *testing.T) {
	for _, x := range []struct {
		text  string
		fault api.Errno
		at    int
	}{
		{"12.3", api.ErrBytes, 4},
		{"012.30", api.ErrBytes, 1},
		{"", api.ErrBytes, 0},
		{"1.234", api.ErrBytes, 4},
		{"-", api.ErrBytes, 1},
		{"--1.00", api.ErrBytes, 1},
		{"+1.00", api.ErrBytes, 0},
		{" 1.00", api.ErrBytes, 0},
		{"1.00 ", api.ErrBytes, 4},
		{"1,00", api.ErrBytes, 1},
		{"1-.00", api.ErrBytes, 1},
		{"1.-0", api.ErrBytes, 2},
		{"1..0", api.ErrBytes, 2},
		{"1.0.", api.ErrBytes, 3},
		{".50", api.ErrBytes, 0},
		{"-.50", api.ErrBytes, 1},
		{"-012.30", api.ErrBytes, 2},
		{"00.00", api.ErrBytes, 1},
		{"0", api.ErrBytes, 1},
		{"1", api.ErrBytes, 1},
		{"1.", api.ErrBytes, 2},
		{"1.0", api.ErrBytes, 3},
		{"١.00", api.ErrBytes, 0},
		{"1.00\x00", api.ErrBytes, 4},
		{"\xff", api.ErrBytes, 0},
		{"-0.00", api.ErrRange, 0},
		{"-0.000", api.ErrBytes, 5},
		{"10995116277.76", api.ErrRange, 0},
		{"-10995116277.76", api.ErrRange, 0},
		{"99999999999999999.99", api.ErrRange, 0},
		{"-9999999999999999.99", api.ErrRange, 0},
		// The greatest int, and the number behind it.
		{"92233720368547758.07", api.ErrRange, 0},
		{"92233720368547758.08", api.ErrRange, 0},
		{"11111111111111111111", api.ErrBytes, 20},
		{"11111111111111111.1x", api.ErrBytes, 19},
		{"111111111111111111.11", api.ErrLong, 0},
		{"x11111111111111111111", api.ErrLong, 0},
		{strings.Repeat("0", 21), api.ErrLong, 0},
		{strings.Repeat("-", 1000), api.ErrLong, 0},
	} {
		want := api.Fault{Err: x.fault, At: x.at}
		if got, f := money.Parse(x.text); got != 0 || f != want {
			t.Errorf("Parse(%q) = %d, %v, not %v", x.text, got, f, want)
		}
	}
}

// texts of hundredths, and what they may begin with.
var (
	complete = regexp.MustCompile(`^-?(0|[1-9][0-9]*)\.[0-9][0-9]$`)
	prefix   = regexp.MustCompile(`^-?((0|[1-9][0-9]*)(\.[0-9]?[0-9]?)?)?$`)
)

// exactParse is what Parse ought to answer, for short texts.
func exactParse(text string) (int, api.Fault) {
	for i := range len(text) {
		if !prefix.MatchString(text[:i+1]) {
			return 0, api.Fault{Err: api.ErrBytes, At: i}
		}
	}
	if !complete.MatchString(text) {
		return 0, api.Fault{Err: api.ErrBytes, At: len(text)}
	}
	if text == "-0.00" {
		return 0, api.Fault{Err: api.ErrRange}
	}
	n, err := strconv.Atoi(strings.Replace(text, ".", "", 1))
	if err != nil {
		panic(err)
	}
	return n, api.Fault{}
}

func checkParse(t *testing.T, text string) {
	t.Helper()
	want, wantFault := exactParse(text)
	got, f := money.Parse(text)
	if got != want || f != wantFault {
		t.Fatalf("Parse(%q) = %d, %v, not %d, %v", text, got, f, want, wantFault)
	}
	if f.Err != api.OK {
		return
	}
	if again, e := money.Text(got); again != text || e != api.OK {
		t.Fatalf("Text(%d) = %q, %v, though Parse read it from %q", got, again, e, text)
	}
}

func TestParseOfAllShortTexts(t *testing.T) {
	texts := []string{""}
	for len(texts) > 0 && len(texts[0]) <= 6 {
		var longer []string
		for _, text := range texts {
			checkParse(t, text)
			for _, b := range "-.015/:" {
				longer = append(longer, text+string(b))
			}
		}
		texts = longer
	}
}

func TestParseOfEachByteInEachPlace(t *testing.T) {
	for _, text := range []string{"-120.34", "0.05", "120.34"} {
		for i := range text {
			for b := range 256 {
				checkParse(t, text[:i]+string([]byte{byte(b)})+text[i+1:])
			}
		}
	}
}
