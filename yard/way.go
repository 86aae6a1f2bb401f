package yard

// rounds is how often what is under way comes, and what that brings, at most.
const rounds = 50

// come lets all come that is under way.
func (y *Yard) come() {
	for range rounds {
		way := y.gather()
		if len(way) == 0 {
			return
		}
		for _, deliver := range way {
			deliver()
		}
	}
}

// gather takes what all nodes sent, as functions that deliver it.
func (y *Yard) gather() []func() {
	var way []func()
	for from := range y.hosts {
		msgs, notes := y.hosts[from].Sent()
		for _, m := range msgs {
			way = append(way, func() {
				y.reach(from, m.To, func(h *host) { h.Step(m) })
			})
		}
		for _, n := range notes {
			way = append(way, func() {
				y.reach(from, n.To, func(h *host) { h.Hear(n) })
			})
		}
	}
	return way
}

// reach does something at a node that another one reaches. What is to one that is down, or that is not in the yard, is lost.
func (y *Yard) reach(from, to int, do func(h *host)) {
	h := y.host(to)
	if h == nil || h.cut || y.hosts[from].cut {
		return
	}
	do(h)
	h.settle()
}
