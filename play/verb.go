package play

import (
	"strconv"

	"stowage/api"
	"stowage/percent"
	"stowage/yard"
)

// verb is what a first word asks for behind it, and what its line does.
type verb struct {
	least, most int  // how many numbers there are
	bytes       bool // bytes stand behind them
	first       bool // it needs no yard
	does        func(p *player, w words) string
}

// verbs are all that may be first words.
func verbs() map[string]verb {
	return map[string]verb{
		"new":  {least: 1, most: 1, first: true, does: (*player).begin},
		"tick": {least: 1, most: 1, does: (*player).tick},
		"send": {least: 2, most: 2, bytes: true, does: (*player).send},
		"shut": {least: 2, most: 2, does: (*player).shut},
		"down": {least: 3, most: 3, does: (*player).down},
		"up":   {least: 1, most: 1, does: (*player).up},
		"cut":  {least: 1, most: 1, does: (*player).cut},
		"join": {least: 1, most: 1, does: (*player).join},
		"room": {least: 1, most: 2, does: (*player).room},
		"out":  {least: 2, most: 2, does: (*player).out},
		"lead": {does: (*player).lead},
		"node": {least: 1, most: 1, does: (*player).node},
	}
}

// errorText is how an error is told.
func errorText(e api.Errno) string {
	if e == api.OK {
		return "ok"
	}
	return "error " + strconv.Itoa(int(e))
}

// do does an act, and tells its error.
func (p *player) do(a api.Act) string {
	return errorText(p.yard.Do(a))
}

// begin begins with a new yard, or with none, if it may not be.
func (p *player) begin(w words) string {
	y, e := yard.New(w.n[0])
	p.yard = y
	return errorText(e)
}

// tick lets ticks pass. How many may pass is asked first, as they can't be taken back.
func (p *player) tick(w words) string {
	if p.ticks+w.n[0] > mostTicks {
		return "late"
	}
	e := p.yard.Do(api.Act{Kind: api.ActTick, N: w.n[0]})
	if e == api.OK {
		p.ticks += w.n[0]
	}
	return errorText(e)
}

// send sends bytes on a connection.
func (p *player) send(w words) string {
	return p.do(api.Act{Kind: api.ActBytes, Node: w.n[0], Conn: w.n[1], Text: w.text})
}

// shut lets a connection begin anew.
func (p *player) shut(w words) string {
	return p.do(api.Act{Kind: api.ActShut, Node: w.n[0], Conn: w.n[1]})
}

// down lets a node's power fail.
func (p *player) down(w words) string {
	return p.do(api.Act{Kind: api.ActDown, Node: w.n[0], N: w.n[1], M: w.n[2]})
}

// up lets a node stand up.
func (p *player) up(w words) string {
	return p.do(api.Act{Kind: api.ActUp, Node: w.n[0]})
}

// cut cuts a node off.
func (p *player) cut(w words) string {
	return p.do(api.Act{Kind: api.ActCut, Node: w.n[0], N: 1})
}

// join joins a node again.
func (p *player) join(w words) string {
	return p.do(api.Act{Kind: api.ActCut, Node: w.n[0]})
}

// room gives a node's disk room for so many bytes more, or for any.
func (p *player) room(w words) string {
	more := -1
	if len(w.n) > 1 {
		more = w.n[1]
	}
	return p.do(api.Act{Kind: api.ActRoom, Node: w.n[0], N: more})
}

// out tells what went out on a connection.
func (p *player) out(w words) string {
	return "=" + percent.Name(p.yard.Out(w.n[0], w.n[1]))
}

// lead tells who leads.
func (p *player) lead(w words) string {
	leader := p.yard.Leader()
	if leader < 0 {
		return "none"
	}
	return strconv.Itoa(leader)
}

// node tells whether a node is up.
func (p *player) node(w words) string {
	if p.yard.Up(w.n[0]) {
		return "up"
	}
	return "down"
}
