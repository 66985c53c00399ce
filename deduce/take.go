package deduce

import (
	"strings"

	"sluiceway/api"
	"sluiceway/term"
)

// fewNews: where there are more of them, trying a key is less work than searching for each of them in it.
const fewNews = 16

// look goes over the notes: how many terms were heard, and which boxes are shut.
func (m *Mind) look() (int, []api.Term) {
	heard := 0
	var shut []api.Term
	for t, n := range m.notes {
		if n.heard {
			heard++
		}
		if n.key != "" {
			shut = append(shut, t)
		}
	}
	return heard, shut
}

// take notes a right term as held, with what it has within that lies open, and puts what had no such note behind news. Boxes are noted as shut, whatever their key: follow tries them when all else is there.
func (m *Mind) take(t api.Term, news []api.Term) []api.Term {
	n := m.notes[t]
	if n.held {
		return news
	}
	p, _ := term.Open(t)
	n.held = true
	if p.Op == api.OpBox {
		n.key = p.Kids[0]
	}
	m.notes[t] = n
	news = append(news, t)
	switch p.Op {
	case api.OpTuple:
		for _, k := range p.Kids {
			news = m.take(k, news)
		}
	case api.OpJoin, api.OpBind:
		news = m.takeKey(t, news)
	}
	return news
}

// takeKey notes the public key of a secret, if it is a right term.
func (m *Mind) takeKey(secret api.Term, news []api.Term) []api.Term {
	p, e := term.Pub(secret)
	if _, there := m.notes[p]; there || e != api.OK {
		return news
	}
	m.notes[p] = note{}
	return append(news, p)
}

// follow opens the boxes whose keys can be made since there are news, those among the news included, till no more open.
func (m *Mind) follow(news, shut []api.Term) {
	for len(news) > 0 {
		shut = append(shut, m.boxes(news)...)
		var more, still []api.Term
		for _, box := range shut {
			if concern(news, box) && m.makes(m.notes[box].key) {
				more = m.open(box, more)
			} else {
				still = append(still, box)
			}
		}
		news, shut = more, still
	}
}

// boxes are those of the news that are shut.
func (m *Mind) boxes(news []api.Term) []api.Term {
	var l []api.Term
	for _, t := range news {
		if m.notes[t].key != "" {
			l = append(l, t)
		}
	}
	return l
}

// open takes what is in a shut box whose key can be made.
func (m *Mind) open(box api.Term, news []api.Term) []api.Term {
	n := m.notes[box]
	inside, _ := term.Unbox(n.key, box)
	n.key = ""
	m.notes[box] = n
	return m.take(inside, news)
}

// concern tells whether a box is itself among the news, or its key might be made by their help. A key that could not be made can be only if one of them stands within it, or is the public key of what does. This spares most boxes a try for each term heard.
func concern(news []api.Term, box api.Term) bool {
	if len(news) > fewNews {
		return true
	}
	for _, x := range news {
		if x[0] == api.OpPub {
			x = x[1:]
		}
		if strings.Contains(string(box), string(x)) {
			return true
		}
	}
	return false
}
