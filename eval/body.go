package eval

import "trammel/api"

// body is a function's Body as a row of nodes: each term ahead of its parts, and these in their order. So a frame needs to keep one
// number, and not the terms around: 256 frames of 65536 terms each, one within the other, would be more than Go's own stack takes.
type body struct {
	nodes []node
	arms  map[arm]int32 // the block of each number of an SSwitch
}

// node is a term, and where it stands among the others.
type node struct {
	*api.Term
	text uint64 // of an XText the reference, once there is one
	up   int32  // of what it is a part
	next int32  // what stands behind it and its parts
	last int32  // its last part; the first one stands right behind it
}

// arm is a number of an SSwitch.
type arm struct{ turn, number int64 }

// outermost is what a Body is a part of.
const outermost = -1

func newBody(t *api.Term) *body {
	b := &body{arms: map[arm]int32{}}
	b.lay(t, outermost)
	return b
}

// lay puts a term and its parts behind the nodes.
func (b *body) lay(t *api.Term, up int32) {
	at := len(b.nodes)
	b.nodes = append(b.nodes, node{Term: t, up: up})
	for i := range t.Kids {
		b.nodes[at].last = int32(len(b.nodes))
		b.lay(&t.Kids[i], int32(at))
	}
	b.nodes[at].next = int32(len(b.nodes))
	if t.Op == api.SCase {
		b.keepArms(b.nodes[at])
	}
}

// keepArms keeps where the numbers of an SCase lead.
func (b *body) keepArms(n node) {
	turn := b.nodes[n.up].N
	for _, x := range n.Kids[:len(n.Kids)-1] {
		b.arms[arm{turn, x.N}] = n.last
	}
}

// choose tells the block of an SSwitch to which a number leads.
func (b *body) choose(n *node, number int64) int32 {
	if block, ok := b.arms[arm{n.N, number}]; ok {
		return block
	}
	return n.last
}

// turn tells where the SLoop or SSwitch is to which the SBreak or SNext at a place leads.
func (b *body) turn(at int32) int32 {
	number := b.nodes[at].N
	for {
		at = b.nodes[at].up
		n := b.nodes[at]
		if n.N == number && (n.Op == api.SLoop || n.Op == api.SSwitch) {
			return at
		}
	}
}
