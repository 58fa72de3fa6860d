package lower

import (
	"trammel/api"
	"trammel/flow"
)

// pool has a program's texts, each once, and the place of each among them.
type pool struct {
	list   []string
	places map[string]int
}

// poolOf tells the pool of a program that may be lowered; else what is wrong with it.
func poolOf(p api.Program) (pool, api.Errno) {
	if _, wrong := flow.Check(p); wrong != api.OK { // check.Valid's error, too
		return pool{}, wrong
	}
	texts := pool{places: map[string]int{}}
	for _, f := range p.Funcs {
		texts.add(f.Body)
	}
	return texts, api.OK
}

// add adds those texts of terms, and of what is in them, that are not there yet.
func (p *pool) add(list ...api.Term) {
	for _, t := range list {
		if t.Op == api.XText {
			p.keep(t.Text)
		}
		p.add(t.Kids...)
	}
}

func (p *pool) keep(text string) {
	if _, ahead := p.places[text]; !ahead {
		p.places[text] = len(p.list)
		p.list = append(p.list, text)
	}
}
