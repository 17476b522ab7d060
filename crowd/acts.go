package crowd

import (
	"slices"

	"yokefellow/api"
	"yokefellow/bounds"
	"yokefellow/node"
	"yokefellow/wire"
)

// move is what happens to a node: the node behind it, and what it says.
type move func(s api.Node, who int) (api.Node, []api.Word, api.Errno)

func submits(value int) move {
	return func(s api.Node, who int) (api.Node, []api.Word, api.Errno) { return node.Submit(s, who, value) }
}

func hears(w api.Word) move {
	return func(s api.Node, who int) (api.Node, []api.Word, api.Errno) { return node.Hear(s, who, w) }
}

func refuse(e api.Errno) api.Reply { return api.Reply{Code: e} }

// turn is the one way in which a node changes, so that nothing that it says is lost.
func (c *Crowd) turn(who int, does move) api.Reply {
	if !bounds.Node(who) {
		return refuse(api.ErrRange)
	}
	s, said, e := does(c.nodes[who], who)
	if e != api.OK {
		return refuse(e)
	}
	c.nodes[who] = s
	return api.Reply{N: c.send(who, said)}
}

// send is how many letters there was room for.
func (c *Crowd) send(from int, said []api.Word) int {
	before := len(c.net)
	for _, w := range said {
		for to := range c.nodes {
			if to != from && len(c.net) < api.MaxNet {
				c.net = append(c.net, api.Letter{To: to, Word: w})
			}
		}
	}
	return len(c.net) - before
}

func (c *Crowd) isLetter(n int) bool { return bounds.Within(n, 0, len(c.net)-1) }

// deliver leaves the letter where it lies: it may come twice.
func (c *Crowd) deliver(n int) api.Reply {
	if !c.isLetter(n) {
		return refuse(api.ErrNone)
	}
	letter := c.net[n]
	return c.turn(letter.To, hears(letter.Word))
}

func (c *Crowd) drop(n int) api.Reply {
	if !c.isLetter(n) {
		return refuse(api.ErrNone)
	}
	c.net = slices.Delete(c.net, n, n+1)
	return api.Reply{}
}

// lie is for the liar's own words only: nobody speaks in the name of one who is true.
func (c *Crowd) lie(to int, w api.Word) api.Reply {
	if e := wire.Good(w); e != api.OK {
		return refuse(e)
	}
	if w.From != c.liar {
		return refuse(api.ErrTrue)
	}
	return c.turn(to, hears(w))
}

// read is what a client takes, who can't know whether the liar tells what it has settled or something else.
func (c *Crowd) read(lies bool, tell [api.Heights]int) api.Reply {
	var all [api.Nodes][api.Heights]int
	for i := range c.nodes {
		all[i] = c.nodes[i].Settled
	}
	if lies && c.liar != nobody {
		all[c.liar] = tell
	}
	return api.Reply{Settled: Take(all)}
}

// told is the least value that enough nodes tell of a height; 0, which is no value: there is none.
func told(l *[api.Nodes][api.Heights]int, height int) int {
	for value := 1; value <= api.Values; value++ {
		tellers := 0
		for _, list := range l {
			if list[height] == value {
				tellers++
			}
		}
		if tellers >= api.Some {
			return value
		}
	}
	return 0
}
