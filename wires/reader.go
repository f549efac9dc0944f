package wires

import (
	"strconv"
	"strings"

	"gridworks/api"
)

// noBus: the place of what has a name, but is no bus.
const noBus = -1

// reader makes a network of lines, and gives up at the first thing that is wrong.
type reader struct {
	net   api.Net
	names map[string]int // of each name that is taken its bus
	at    int            // the line
	words []string       // of the line, those that are yet to be taken
}

// read gives up by a panic with an api.Fault.
func read(s string) api.Net {
	r := reader{names: map[string]int{}}
	r.insist(len(s) <= api.MaxText, api.ErrSize)
	for at, words := range lines(s) {
		r.at, r.words = at, words
		if len(words) > 0 {
			r.take()
		}
	}
	r.insist(r.begun(), api.ErrForm)
	return r.net
}

func (r *reader) insist(holds bool, code api.Errno) {
	if !holds {
		panic(api.Fault{Code: code, At: r.at})
	}
}

// begun: whether a net came; none is named by no letters.
func (r *reader) begun() bool { return r.net.Name != "" }

func (r *reader) take() {
	count := len(r.words)
	kind := r.word()
	r.insist(count == wordsIn(kind) && (kind == "net") != r.begun(), api.ErrForm)
	switch kind {
	case "net":
		r.net.Name = r.name()
	case "bus":
		r.bus()
	case "line":
		r.line()
	case "gen":
		r.gen()
	case "load":
		r.load()
	case "tie":
		r.tie()
	}
}

func (r *reader) bus() {
	place := len(r.net.Buses)
	name := r.newName(place, api.MaxBuses)
	r.names[name] = place
	r.net.Buses = append(r.net.Buses, name)
}

func (r *reader) line() {
	var l api.Line
	l.Name = r.newName(len(r.net.Lines), api.MaxLines)
	l.From, l.To = r.ends()
	l.Worth = r.number(1, api.MaxWorth)
	l.Limit = r.number(0, api.MaxPower)
	r.net.Lines = append(r.net.Lines, l)
}

func (r *reader) gen() {
	var g api.Gen
	g.Name = r.newName(len(r.net.Gens), api.MaxGens)
	g.Bus = r.place()
	g.Least = r.number(0, api.MaxPower)
	g.Most = r.number(g.Least, api.MaxPower)
	g.Cost = r.number(0, api.MaxCost)
	r.net.Gens = append(r.net.Gens, g)
}

func (r *reader) load() {
	var l api.Load
	l.Name = r.newName(len(r.net.Loads), api.MaxLoads)
	l.Bus = r.place()
	l.Power = r.number(0, api.MaxPower)
	r.net.Loads = append(r.net.Loads, l)
}

func (r *reader) tie() {
	var t api.Tie
	t.Name = r.newName(len(r.net.Ties), api.MaxTies)
	t.From, t.To = r.ends()
	t.Closed = r.closed()
	r.net.Ties = append(r.net.Ties, t)
}

// word: the next one; that there are enough of them is known from the line's kind.
func (r *reader) word() string {
	w := r.words[0]
	r.words = r.words[1:]
	return w
}

func (r *reader) name() string {
	w := r.word()
	r.insist(isName(w), api.ErrName)
	return strings.Clone(w) // a part of the text would hold on to all of it
}

// newName of something of whose kind there are so many, and may be at most so many.
func (r *reader) newName(count, most int) string {
	name := r.name()
	_, taken := r.names[name]
	r.insist(!taken, api.ErrTwice)
	r.insist(count < most, api.ErrFull)
	r.names[name] = noBus
	return name
}

// place of a bus that is named.
func (r *reader) place() int {
	place, taken := r.names[r.word()]
	r.insist(taken && place != noBus, api.ErrNone)
	return place
}

func (r *reader) ends() (from, to int) {
	from = r.place()
	to = r.place()
	r.insist(from != to, api.ErrKind)
	return from, to
}

func (r *reader) number(least, most int) int {
	w := r.word()
	r.insist(isNumber(w), api.ErrForm)
	n, _ := strconv.Atoi(w)
	r.insist(n >= least && n <= most, api.ErrRange)
	return n
}

func (r *reader) closed() bool {
	w := r.word()
	r.insist(w == "open" || w == "closed", api.ErrForm)
	return w == "closed"
}
