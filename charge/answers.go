package charge

import "coulomb/api"

// place is where a note comes: the line over which it was told, and its kind.
type place struct{ line, kind int }

// answer lets the party to which a line leads do what it does with a note.
func (n *Net) answer(line int, note api.Note) {
	if act, has := answers()[place{line, note.Kind}]; has {
		act(n, note)
	}
}

// answers returns what is done with the notes.
func answers() map[place]func(*Net, api.Note) {
	return map[place]func(*Net, api.Note){
		{vehicleToStation, api.NotePlug}:    (*Net).stationPlug,
		{stationToOperator, api.NoteAuth}:   (*Net).operatorAuth,
		{operatorToPayer, api.NoteAsk}:      (*Net).payerAsk,
		{payerToOperator, api.NoteApprove}:  (*Net).operatorApprove,
		{payerToOperator, api.NoteDeny}:     (*Net).operatorDeny,
		{operatorToStation, api.NoteRefuse}: (*Net).stationRefuse,
		{operatorToStation, api.NoteStart}:  (*Net).stationStart,
		{stationToVehicle, api.NoteOffer}:   (*Net).vehicleOffer,
		{stationToVehicle, api.NoteRefuse}:  (*Net).vehicleRefuse,
		{stationToOperator, api.NoteRecord}: (*Net).operatorRecord,
		{stationToOperator, api.NoteFinal}:  (*Net).operatorRecord,
		{operatorToStation, api.NoteAcked}:  (*Net).stationAcked,
		{operatorToStation, api.NoteHalt}:   (*Net).stationHalt,
		{operatorToStation, api.NoteBill}:   (*Net).stationBill,
		{operatorToPayer, api.NoteBill}:     (*Net).payerBill,
		{stationToVehicle, api.NoteBill}:    (*Net).vehicleBill,
		{operatorToStation, api.NoteLease}:  (*Net).stationLease,
		{stationToOperator, api.NoteLeased}: (*Net).operatorLeased,
	}
}

// stationPlug begins a session, or refuses the plug.
func (n *Net) stationPlug(note api.Note) {
	s := &n.station
	p := plug{int(note.A), int(note.C)}
	if s.phase != api.ChargeIdle || !n.plugged {
		n.tellPlug(api.NoteRefuse, 0, p)
		return
	}
	s.begin(p)
	n.tell(stationToOperator, api.Note{Kind: api.NoteAuth, Session: s.session, A: note.A, B: note.B, C: note.C})
}

// operatorAuth opens a session with a proof that is right and new.
func (n *Net) operatorAuth(note api.Note) {
	o := &n.operator
	p := plug{int(note.A), int(note.C)}
	if o.used[p] || !n.isProof(p, note.B) {
		n.tell(operatorToStation, api.Note{Kind: api.NoteRefuse, Session: note.Session})
		return
	}
	o.used[p] = true
	o.open = append(o.open, account{session: note.Session, amount: n.deal.Tariff.Fee})
	n.tell(operatorToPayer, api.Note{Kind: api.NoteAsk, Session: note.Session, A: note.A})
}

// isProof reports whether a number is the proof for a plug.
func (n *Net) isProof(p plug, b int64) bool {
	if !n.hasContract(int64(p.contract)) {
		return false
	}
	c := n.deal.Contracts[p.contract]
	if !isIndex(int64(p.number), len(c.Pads)) {
		return false
	}
	proof, e := proofOf(c, p)
	return e == api.OK && b == int64(proof)
}

// payerAsk approves a session of a contract that does not owe too much.
func (n *Net) payerAsk(note api.Note) {
	if n.payer.owed[note.A] > n.deal.Credit {
		n.tell(payerToOperator, api.Note{Kind: api.NoteDeny, Session: note.Session})
		return
	}
	n.payer.contracts[note.Session] = int(note.A)
	n.tell(payerToOperator, api.Note{Kind: api.NoteApprove, Session: note.Session})
}

// operatorApprove lets the station start.
func (n *Net) operatorApprove(note api.Note) {
	n.tell(operatorToStation, api.Note{Kind: api.NoteStart, Session: note.Session})
}

// operatorDeny closes a session for which nobody would pay.
func (n *Net) operatorDeny(note api.Note) {
	if i := n.operator.find(note.Session); i >= 0 {
		n.operator.close(i)
	}
	n.tell(operatorToStation, api.Note{Kind: api.NoteRefuse, Session: note.Session})
}

// stationRefuse passes on that the session is refused.
func (n *Net) stationRefuse(note api.Note) {
	s := &n.station
	if s.isIn(api.ChargeAsked, note.Session) {
		s.phase = api.ChargeIdle
		n.tellPlug(api.NoteRefuse, s.session, s.plug)
	}
}

// stationStart lets energy flow; a session whose plug is out has to be ended, because the operator waits for its end.
func (n *Net) stationStart(note api.Note) {
	s := &n.station
	if !s.isIn(api.ChargeAsked, note.Session) {
		return
	}
	if s.gone {
		n.endSession()
		return
	}
	s.phase = api.ChargeFlowing
	n.tellPlug(api.NoteOffer, s.session, s.plug)
}

// tellPlug tells the vehicle what becomes of a plug.
func (n *Net) tellPlug(kind, session int, p plug) {
	n.tell(stationToVehicle, api.Note{Kind: kind, Session: session, A: int64(p.number), B: int64(p.contract)})
}

// vehicleOffer lets the vehicle count for a session.
func (n *Net) vehicleOffer(note api.Note) {
	if v := &n.vehicle; v.waitsFor(note) {
		v.phase, v.session = api.ChargeFlowing, note.Session
	}
}

// vehicleRefuse lets the vehicle give up.
func (n *Net) vehicleRefuse(note api.Note) {
	if v := &n.vehicle; v.waitsFor(note) {
		v.phase = api.ChargeEnded
	}
}

// operatorRecord adds a record to its session, and answers it; the last one with the bill.
func (n *Net) operatorRecord(note api.Note) {
	o := &n.operator
	i := o.find(note.Session)
	if i < 0 {
		return
	}
	a := &o.open[i]
	a.add(energy{note.A, note.B}, costAt(n.deal.Tariff, note.C, energy{note.A, note.B}))
	if note.Kind == api.NoteRecord {
		n.tell(operatorToStation, api.Note{Kind: api.NoteAcked, Session: note.Session})
		return
	}
	b := a.bill()
	o.close(i)
	o.put(b)
	n.tellBill(operatorToStation, b)
	n.tellBill(operatorToPayer, b)
}

// tellBill tells a bill over a line.
func (n *Net) tellBill(line int, b api.Bill) {
	n.tell(line, api.Note{Kind: api.NoteBill, Session: b.Session, A: b.In, B: b.Back, C: b.Amount})
}

// billOf returns the bill that a note tells.
func billOf(note api.Note) api.Bill {
	return api.Bill{Session: note.Session, In: note.A, Back: note.B, Amount: note.C}
}

// stationAcked counts a record that is answered.
func (n *Net) stationAcked(note api.Note) {
	if s := &n.station; s.isIn(api.ChargeFlowing, note.Session) {
		s.open = max(0, s.open-1)
	}
}

// stationHalt ends a session because the operator wants it.
func (n *Net) stationHalt(note api.Note) {
	if n.station.isIn(api.ChargeFlowing, note.Session) {
		n.endSession()
	}
}

// stationBill keeps the bill of a session that was ended, and passes it on.
func (n *Net) stationBill(note api.Note) {
	s := &n.station
	if !s.isIn(api.ChargeClosing, note.Session) {
		return
	}
	s.phase = api.ChargeIdle
	s.put(billOf(note))
	n.tellBill(stationToVehicle, billOf(note))
}

// payerBill keeps a bill, which is not paid.
func (n *Net) payerBill(note api.Note) {
	p := &n.payer
	p.put(billOf(note))
	p.owed[p.contracts[note.Session]] += note.C
	delete(p.contracts, note.Session)
}

// vehicleBill keeps a bill.
func (n *Net) vehicleBill(note api.Note) { n.vehicle.put(billOf(note)) }

// stationLease takes a lease.
func (n *Net) stationLease(note api.Note) {
	n.station.post.Take(api.Lease{Number: note.Session, Draw: note.A, Back: note.B, Until: note.C})
	n.tell(stationToOperator, api.Note{Kind: api.NoteLeased, Session: note.Session})
}

// operatorLeased acknowledges a lease.
func (n *Net) operatorLeased(note api.Note) { n.operator.site.Ack(0, note.Session) }
