package cluster

import "hustings/api"

// Bounds of the options.
const (
	maxClients = 8
	maxKeep    = 1000
	maxSpan    = 1 << 40
	leastQuota = 1000
)

// mayBe: may there be so many?
func (o Options) mayBe() bool {
	return within(o.Servers, 1, api.MaxServers) && within(o.All, o.Servers, api.MaxServers) &&
		within(o.Clients, 0, maxClients) && within(o.Keep, 1, maxKeep) &&
		within(o.Span, 1, maxSpan) && within(o.Quota, leastQuota, api.MaxBytes)
}

func within(n, least, most int) bool {
	return n >= least && n <= most
}
