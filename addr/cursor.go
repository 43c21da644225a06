package addr

import (
	"slices"
	"strconv"
	"strings"

	"apportion/api"
	"apportion/words"
)

const (
	half         = "1/2"
	numberDigits = 6 // of api.MaxNumber
	unitTokens   = 2
	maxUnit      = 10 // bytes of the second token of a unit
	zipDigits    = 5
	moreDigits   = 4
)

// fault is what the methods of a cursor panic with.
type fault api.Fault

// cursor is what is left to read of a part: its methods take away what they read, or panic with a fault.
type cursor struct {
	index int // of the part
	left  []api.Token
}

func isEmpty(c cursor) bool     { return len(c.left) == 0 }
func isHash(t api.Token) bool   { return t.Kind == api.TokenHash }
func isNoWord(t api.Token) bool { return t.Kind != api.TokenWord }

// demand panics if what the part must have does not hold.
func (c *cursor) demand(holds bool, e api.Errno) {
	if !holds {
		panic(fault{Err: e, At: c.index})
	}
}

// number takes the number of a house from the front of a part that is not empty.
func (c *cursor) number() int {
	text := c.left[0].Text
	n, err := strconv.Atoi(text)
	c.demand(err == nil && len(text) <= numberDigits && n > 0, api.ErrNumber)
	c.left = c.left[1:]
	return n
}

// half takes a half from the front, and reports whether there was one.
func (c *cursor) half() bool {
	is := len(c.left) > 0 && c.left[0].Text == half
	if is {
		c.left = c.left[1:]
	}
	return is
}

// unit returns the unit that all that is left is, as a text.
func (c *cursor) unit() string {
	ahead, is := unitAhead(c.left)
	c.demand(is, api.ErrUnit)
	text := c.left[1].Text
	c.demand(len(text) <= maxUnit, api.ErrUnit)
	return ahead + text
}

// unitAhead returns what stands in the text of a unit ahead of its second token, and whether l is the tokens of a unit.
func unitAhead(l []api.Token) (string, bool) {
	if len(l) != unitTokens || isHash(l[1]) {
		return "", false
	}
	if isHash(l[0]) {
		return l[0].Text, true
	}
	short, is := words.Short(api.WordUnit, l[0].Text)
	return short + " ", is
}

// lastUnit takes a unit from the end of a street of which more is left, and returns it as a text; an empty one if there is none.
func (c *cursor) lastUnit() string {
	at := len(c.left) - unitTokens
	if at <= 0 {
		return ""
	}
	end := cursor{index: c.index, left: c.left[at:]}
	if _, is := unitAhead(end.left); !is {
		return ""
	}
	c.left = c.left[:at]
	return end.unit()
}

// lastShort takes a word of kind from the end if more is left, and returns its short form; an empty text if there is none.
func (c *cursor) lastShort(kind int) string {
	at := len(c.left) - 1
	short, is := c.shortAt(at, kind)
	if is {
		c.left = c.left[:at]
	}
	return short
}

// firstShort is lastShort at the front.
func (c *cursor) firstShort(kind int) string {
	short, is := c.shortAt(0, kind)
	if is {
		c.left = c.left[1:]
	}
	return short
}

// shortAt returns the short form of kind of the token at a place, and whether it has one and more than it is left.
func (c *cursor) shortAt(at, kind int) (string, bool) {
	if len(c.left) < 2 {
		return "", false
	}
	return words.Short(kind, c.left[at].Text)
}

// name returns the name that all that is left is.
func (c *cursor) name(isWrong func(t api.Token) bool, e api.Errno) string {
	text := c.text()
	c.demand(text != "" && len(text) <= api.MaxText, e)
	c.demand(len(c.left) <= api.MaxWords && !slices.ContainsFunc(c.left, isWrong), e)
	return text
}

// text returns the texts of all that is left, with a blank between each two.
func (c *cursor) text() string {
	texts := make([]string, len(c.left))
	for i, t := range c.left {
		texts[i] = t.Text
	}
	return strings.Join(texts, " ")
}

// zip takes a ZIP, and its four digits more if there are any, from the end of a part that is not empty.
func (c *cursor) zip() (string, string) {
	at := len(c.left) - 1
	zip, more, hasMore := strings.Cut(c.left[at].Text, "-")
	c.demand(isDigits(zip, zipDigits) && (!hasMore || isDigits(more, moreDigits)), api.ErrZip)
	c.left = c.left[:at]
	return zip, more
}

func isDigits(text string, n int) bool {
	return len(text) == n && strings.Trim(text, "0123456789") == ""
}

// state returns the short form of the state that all that is left is.
func (c *cursor) state() string {
	short, is := words.Short(api.WordState, c.text())
	c.demand(is, api.ErrPlace)
	return short
}
