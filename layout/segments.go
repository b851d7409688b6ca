package layout

import "gangway/api"

// segments: of Outputs in their order.
func segments(outputs []Output) []api.Segment {
	rows := [...]struct{ kind, flags, from, to int }{
		{Load, R, readOnly, readOnly},
		{Load, R | X, code, code},
		{Load, R | W, tlsData, room},
		{Tls, R, tlsData, tlsRoom},
	}
	var l []api.Segment
	for _, r := range rows {
		var within []Output
		for _, o := range outputs {
			if g := groupOf(o); g >= r.from && g <= r.to {
				within = append(within, o)
			}
		}
		if len(within) > 0 {
			s := around(within)
			s.Type, s.Flags = r.kind, r.flags
			if r.kind == Load {
				s.Align = api.PageSize
			}
			l = append(l, s)
		}
	}
	return l
}

// around: the segment of Outputs that stand one behind the other, with the greatest Align of these.
func around(l []Output) api.Segment {
	addr := l[0].Addr
	s := api.Segment{Addr: addr, Offset: addr}
	for _, o := range l {
		s.Align = max(s.Align, o.Align)
		s.Memory = o.Addr + o.Size - addr
		if o.Type != api.NoBits {
			s.Size = s.Memory
		}
	}
	return s
}
