package item

import (
	"strings"

	"scullery/api"
	"scullery/bare"
)

// position is a place in a text: what is ahead of it has been read.
type position struct {
	text string
	at   int
}

// parser reads the parts of an item, each from its position on, and moves it behind them.
type parser struct{ position }

func parserOf(s string) parser { return parser{position{text: s}} }

// ReadKey returns the longest key with which s begins, and its length in bytes.
func ReadKey(s string) (string, int, api.Errno) {
	n := keyLength(s)
	if n == 0 {
		return "", 0, api.ErrForm
	}
	return s[:n], n, api.OK
}

// Params returns the parameters with which s begins, and their length in bytes.
func Params(s string) ([]Param, int, api.Errno) {
	p := parserOf(s)
	params, err := p.params()
	if err != api.OK {
		return nil, 0, err
	}
	return params, p.at, api.OK
}

// Read returns the item with which s begins, and its length in bytes.
func Read(s string) (Item, int, api.Errno) {
	p := parserOf(s)
	x, err := p.item()
	if err != api.OK {
		return Item{}, 0, err
	}
	return x, p.at, api.OK
}

// Parse returns the item that s is, apart from spaces around it.
func Parse(s string) (Item, api.Errno) {
	p := parserOf(strings.Trim(s, " "))
	x, err := p.item()
	switch {
	case err != api.OK:
		return Item{}, err
	case p.at < len(p.text):
		return Item{}, api.ErrForm
	}
	return x, api.OK
}

func (p *parser) item() (Item, api.Errno) {
	value, err := p.value()
	if err != api.OK {
		return Item{}, err
	}
	params, err := p.params()
	if err != api.OK {
		return Item{}, err
	}
	return Item{Value: value, Params: params}, api.OK
}

func (p *parser) params() ([]Param, api.Errno) {
	var params []Param
	// By key, since looking through all for each would take too long for many.
	places := map[string]int{}
	for p.take(';') {
		one, err := p.param()
		if err != api.OK {
			return nil, err
		}
		if place, again := places[one.Key]; again {
			params[place] = one
			continue
		}
		places[one.Key] = len(params)
		params = append(params, one)
	}
	return params, api.OK
}

// param reads a parameter from behind its semicolon on.
func (p *parser) param() (Param, api.Errno) {
	for p.take(' ') {
	}
	key, n, err := ReadKey(p.text[p.at:])
	if err != api.OK {
		return Param{}, err
	}
	p.at += n
	if !p.take('=') {
		return Param{Key: key, Value: unspoken()}, api.OK
	}
	value, err := p.value()
	if err != api.OK {
		return Param{}, err
	}
	return Param{Key: key, Value: value}, api.OK
}

func (p *parser) value() (api.Bare, api.Errno) {
	value, n, err := bare.Read(p.text[p.at:])
	p.at += n
	return value, err
}

// take moves behind c and reports true if c is next.
func (p *parser) take(c byte) bool {
	if p.at == len(p.text) || p.text[p.at] != c {
		return false
	}
	p.at++
	return true
}
