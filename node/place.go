package node

import "auditbook/api"

// place is where a node stands in a chain of the nodes 0 to last.
type place struct{ role, last int }

// fits tells if a chain can have such a place.
func (p place) fits() bool {
	return 0 <= p.role && p.role <= p.last && p.last < api.MaxNodes
}

func (p place) isFirst() bool { return p.role == 0 }

func (p place) isLast() bool { return p.role == p.last }

// ahead is the node from which this one gets its entries.
func (p place) ahead() int { return p.role - 1 }

// next is the node to which this one forwards.
func (p place) next() int { return p.role + 1 }
