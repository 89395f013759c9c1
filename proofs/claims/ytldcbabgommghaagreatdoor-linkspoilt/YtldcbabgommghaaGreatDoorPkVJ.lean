/- What the program's Check asks of a packet is what the document's asks; no Go function is walked here. -/
import Derived.Test.YtldcbabgommghaaGreatDoorPkU1J
import Derived.Test.YtldcbabgommghaaGreatDoorPkQJ
namespace Go.Proofs.YtldcbabgommghaaGreatDoor
open Go.RowKit
set_option maxRecDepth 8000
set_option linter.unusedVariables false
set_option linter.unusedSimpArgs false

theorem tx_zx (t : TxD) : txOk t = true → (t.ep = 0 ∧ t.n = 0) ∨ (1 ≤ t.ep ∧ t.ep ≤ 2147483647 ∧ 1 ≤ t.n) := by
  intro h
  unfold txOk zxOk at h
  rw [Bool.and_eq_true, Bool.and_eq_true] at h
  exact of_decide_eq_true h.1.1

theorem same_1 {p : PkD} {tz : Bool} (hg : p.good) (hk : p.kind = 1) : chkP p tz = docB p tz := by
  have e : nmP p.kind = 9 := by rw [hk]; decide
  have l : lt15 p.kind = ⟨#[99, 101]⟩ := by rw [hk]; rfl
  unfold chkP docB
  rw [e, fl_9, l, hk]
  unfold fillP
  rw [am_9]
  simp only [show hasB ⟨#[99, 101]⟩ 99 = true from rfl, show hasB ⟨#[99, 101]⟩ 108 = false from rfl, show hasB ⟨#[99, 101]⟩ 112 = false from rfl, show hasB ⟨#[99, 101]⟩ 101 = true from rfl, show hasB ⟨#[99, 101]⟩ 117 = false from rfl, show hasB ⟨#[99, 101]⟩ 122 = false from rfl, show hasB ⟨#[99, 101]⟩ 118 = false from rfl, show hasB ⟨#[99, 101]⟩ 111 = false from rfl, show hasB ⟨#[99, 101]⟩ 102 = false from rfl, show hasB ⟨#[99, 101]⟩ 116 = false from rfl, show hasB ⟨#[99, 101]⟩ 98 = false from rfl, show hasB ⟨#[99, 101]⟩ 115 = false from rfl]
  simp only [List.all_cons, List.all_nil, rgB, dA, dB, dC, dD, dE, rConn, rZx, connB, epB, zxB, zxOk, txB15, hk]
  have htx := tx_zx p.tx
  obtain ⟨g1, g2, g3, g4, g5, g6, g7, g8, g9, g10, g11, g12, g13, g14, g15, g16, g17, g18, g19, g20, g21, g22, g23, g24, g25, g26, g27⟩ := hg
  rw [show ((⟨#[99, 101]⟩ : ByteArray).toList == []) = false from by decide +kernel]
  clear l e hk
  generalize p.cnt = cn
  generalize p.fin = fi
  generalize txOk p.tx = ok at *
  generalize p.bys.length = bl
  generalize p.tx.ep = te at *
  generalize p.tx.n = tn at *
  generalize zcmp te tn p.pe p.pn = zc
  rw [Bool.eq_iff_iff]
  simp
  grind

theorem same_2 {p : PkD} {tz : Bool} (hg : p.good) (hk : p.kind = 2) : chkP p tz = docB p tz := by
  have e : nmP p.kind = 15 := by rw [hk]; decide
  have l : lt15 p.kind = ⟨#[99, 108, 112, 101]⟩ := by rw [hk]; rfl
  unfold chkP docB
  rw [e, fl_15, l, hk]
  unfold fillP
  rw [am_15]
  simp only [show hasB ⟨#[99, 108, 112, 101]⟩ 99 = true from rfl, show hasB ⟨#[99, 108, 112, 101]⟩ 108 = true from rfl, show hasB ⟨#[99, 108, 112, 101]⟩ 112 = true from rfl, show hasB ⟨#[99, 108, 112, 101]⟩ 101 = true from rfl, show hasB ⟨#[99, 108, 112, 101]⟩ 117 = false from rfl, show hasB ⟨#[99, 108, 112, 101]⟩ 122 = false from rfl, show hasB ⟨#[99, 108, 112, 101]⟩ 118 = false from rfl, show hasB ⟨#[99, 108, 112, 101]⟩ 111 = false from rfl, show hasB ⟨#[99, 108, 112, 101]⟩ 102 = false from rfl, show hasB ⟨#[99, 108, 112, 101]⟩ 116 = false from rfl, show hasB ⟨#[99, 108, 112, 101]⟩ 98 = false from rfl, show hasB ⟨#[99, 108, 112, 101]⟩ 115 = false from rfl]
  simp only [List.all_cons, List.all_nil, rgB, dA, dB, dC, dD, dE, rConn, rZx, connB, epB, zxB, zxOk, txB15, hk]
  have htx := tx_zx p.tx
  obtain ⟨g1, g2, g3, g4, g5, g6, g7, g8, g9, g10, g11, g12, g13, g14, g15, g16, g17, g18, g19, g20, g21, g22, g23, g24, g25, g26, g27⟩ := hg
  rw [show ((⟨#[99, 108, 112, 101]⟩ : ByteArray).toList == []) = false from by decide +kernel]
  clear l e hk
  generalize p.cnt = cn
  generalize p.fin = fi
  generalize txOk p.tx = ok at *
  generalize p.bys.length = bl
  generalize p.tx.ep = te at *
  generalize p.tx.n = tn at *
  generalize zcmp te tn p.pe p.pn = zc
  rw [Bool.eq_iff_iff]
  simp
  grind

theorem same_3 {p : PkD} {tz : Bool} (hg : p.good) (hk : p.kind = 3) : chkP p tz = docB p tz := by
  have e : nmP p.kind = 191 := by rw [hk]; decide
  have l : lt15 p.kind = ⟨#[99, 108, 112, 101, 117, 122, 111]⟩ := by rw [hk]; rfl
  unfold chkP docB
  rw [e, fl_191, l, hk]
  unfold fillP
  rw [am_191]
  simp only [show hasB ⟨#[99, 108, 112, 101, 117, 122, 111]⟩ 99 = true from rfl, show hasB ⟨#[99, 108, 112, 101, 117, 122, 111]⟩ 108 = true from rfl, show hasB ⟨#[99, 108, 112, 101, 117, 122, 111]⟩ 112 = true from rfl, show hasB ⟨#[99, 108, 112, 101, 117, 122, 111]⟩ 101 = true from rfl, show hasB ⟨#[99, 108, 112, 101, 117, 122, 111]⟩ 117 = true from rfl, show hasB ⟨#[99, 108, 112, 101, 117, 122, 111]⟩ 122 = true from rfl, show hasB ⟨#[99, 108, 112, 101, 117, 122, 111]⟩ 118 = false from rfl, show hasB ⟨#[99, 108, 112, 101, 117, 122, 111]⟩ 111 = true from rfl, show hasB ⟨#[99, 108, 112, 101, 117, 122, 111]⟩ 102 = false from rfl, show hasB ⟨#[99, 108, 112, 101, 117, 122, 111]⟩ 116 = false from rfl, show hasB ⟨#[99, 108, 112, 101, 117, 122, 111]⟩ 98 = false from rfl, show hasB ⟨#[99, 108, 112, 101, 117, 122, 111]⟩ 115 = false from rfl]
  simp only [List.all_cons, List.all_nil, rgB, dA, dB, dC, dD, dE, rConn, rZx, connB, epB, zxB, zxOk, txB15, hk]
  have htx := tx_zx p.tx
  obtain ⟨g1, g2, g3, g4, g5, g6, g7, g8, g9, g10, g11, g12, g13, g14, g15, g16, g17, g18, g19, g20, g21, g22, g23, g24, g25, g26, g27⟩ := hg
  rw [show ((⟨#[99, 108, 112, 101, 117, 122, 111]⟩ : ByteArray).toList == []) = false from by decide +kernel]
  clear l e hk
  generalize p.cnt = cn
  generalize p.fin = fi
  generalize txOk p.tx = ok at *
  generalize p.bys.length = bl
  generalize p.tx.ep = te at *
  generalize p.tx.n = tn at *
  generalize zcmp te tn p.pe p.pn = zc
  rw [Bool.eq_iff_iff]
  simp
  grind

theorem same_4 {p : PkD} {tz : Bool} (hg : p.good) (hk : p.kind = 4) : chkP p tz = docB p tz := by
  have e : nmP p.kind = 39 := by rw [hk]; decide
  have l : lt15 p.kind = ⟨#[99, 108, 112, 122]⟩ := by rw [hk]; rfl
  unfold chkP docB
  rw [e, fl_39, l, hk]
  unfold fillP
  rw [am_39]
  simp only [show hasB ⟨#[99, 108, 112, 122]⟩ 99 = true from rfl, show hasB ⟨#[99, 108, 112, 122]⟩ 108 = true from rfl, show hasB ⟨#[99, 108, 112, 122]⟩ 112 = true from rfl, show hasB ⟨#[99, 108, 112, 122]⟩ 101 = false from rfl, show hasB ⟨#[99, 108, 112, 122]⟩ 117 = false from rfl, show hasB ⟨#[99, 108, 112, 122]⟩ 122 = true from rfl, show hasB ⟨#[99, 108, 112, 122]⟩ 118 = false from rfl, show hasB ⟨#[99, 108, 112, 122]⟩ 111 = false from rfl, show hasB ⟨#[99, 108, 112, 122]⟩ 102 = false from rfl, show hasB ⟨#[99, 108, 112, 122]⟩ 116 = false from rfl, show hasB ⟨#[99, 108, 112, 122]⟩ 98 = false from rfl, show hasB ⟨#[99, 108, 112, 122]⟩ 115 = false from rfl]
  simp only [List.all_cons, List.all_nil, rgB, dA, dB, dC, dD, dE, rConn, rZx, connB, epB, zxB, zxOk, txB15, hk]
  have htx := tx_zx p.tx
  obtain ⟨g1, g2, g3, g4, g5, g6, g7, g8, g9, g10, g11, g12, g13, g14, g15, g16, g17, g18, g19, g20, g21, g22, g23, g24, g25, g26, g27⟩ := hg
  rw [show ((⟨#[99, 108, 112, 122]⟩ : ByteArray).toList == []) = false from by decide +kernel]
  clear l e hk
  generalize p.cnt = cn
  generalize p.fin = fi
  generalize txOk p.tx = ok at *
  generalize p.bys.length = bl
  generalize p.tx.ep = te at *
  generalize p.tx.n = tn at *
  generalize zcmp te tn p.pe p.pn = zc
  rw [Bool.eq_iff_iff]
  simp
  grind

theorem same_5 {p : PkD} {tz : Bool} (hg : p.good) (hk : p.kind = 5) : chkP p tz = docB p tz := by
  have e : nmP p.kind = 583 := by rw [hk]; decide
  have l : lt15 p.kind = ⟨#[99, 108, 112, 118, 116]⟩ := by rw [hk]; rfl
  unfold chkP docB
  rw [e, fl_583, l, hk]
  unfold fillP
  rw [am_583]
  simp only [show hasB ⟨#[99, 108, 112, 118, 116]⟩ 99 = true from rfl, show hasB ⟨#[99, 108, 112, 118, 116]⟩ 108 = true from rfl, show hasB ⟨#[99, 108, 112, 118, 116]⟩ 112 = true from rfl, show hasB ⟨#[99, 108, 112, 118, 116]⟩ 101 = false from rfl, show hasB ⟨#[99, 108, 112, 118, 116]⟩ 117 = false from rfl, show hasB ⟨#[99, 108, 112, 118, 116]⟩ 122 = false from rfl, show hasB ⟨#[99, 108, 112, 118, 116]⟩ 118 = true from rfl, show hasB ⟨#[99, 108, 112, 118, 116]⟩ 111 = false from rfl, show hasB ⟨#[99, 108, 112, 118, 116]⟩ 102 = false from rfl, show hasB ⟨#[99, 108, 112, 118, 116]⟩ 116 = true from rfl, show hasB ⟨#[99, 108, 112, 118, 116]⟩ 98 = false from rfl, show hasB ⟨#[99, 108, 112, 118, 116]⟩ 115 = false from rfl]
  simp only [List.all_cons, List.all_nil, rgB, dA, dB, dC, dD, dE, rConn, rZx, connB, epB, zxB, zxOk, txB15, hk]
  have htx := tx_zx p.tx
  obtain ⟨g1, g2, g3, g4, g5, g6, g7, g8, g9, g10, g11, g12, g13, g14, g15, g16, g17, g18, g19, g20, g21, g22, g23, g24, g25, g26, g27⟩ := hg
  rw [show ((⟨#[99, 108, 112, 118, 116]⟩ : ByteArray).toList == []) = false from by decide +kernel]
  clear l e hk
  generalize p.cnt = cn
  generalize p.fin = fi
  generalize txOk p.tx = ok at *
  generalize p.bys.length = bl
  generalize p.tx.ep = te at *
  generalize p.tx.n = tn at *
  generalize zcmp te tn p.pe p.pn = zc
  rw [Bool.eq_iff_iff]
  simp
  grind

theorem same_6 {p : PkD} {tz : Bool} (hg : p.good) (hk : p.kind = 6) : chkP p tz = docB p tz := by
  have e : nmP p.kind = 1287 := by rw [hk]; decide
  have l : lt15 p.kind = ⟨#[99, 108, 112, 102, 98]⟩ := by rw [hk]; rfl
  unfold chkP docB
  rw [e, fl_1287, l, hk]
  unfold fillP
  rw [am_1287]
  simp only [show hasB ⟨#[99, 108, 112, 102, 98]⟩ 99 = true from rfl, show hasB ⟨#[99, 108, 112, 102, 98]⟩ 108 = true from rfl, show hasB ⟨#[99, 108, 112, 102, 98]⟩ 112 = true from rfl, show hasB ⟨#[99, 108, 112, 102, 98]⟩ 101 = false from rfl, show hasB ⟨#[99, 108, 112, 102, 98]⟩ 117 = false from rfl, show hasB ⟨#[99, 108, 112, 102, 98]⟩ 122 = false from rfl, show hasB ⟨#[99, 108, 112, 102, 98]⟩ 118 = false from rfl, show hasB ⟨#[99, 108, 112, 102, 98]⟩ 111 = false from rfl, show hasB ⟨#[99, 108, 112, 102, 98]⟩ 102 = true from rfl, show hasB ⟨#[99, 108, 112, 102, 98]⟩ 116 = false from rfl, show hasB ⟨#[99, 108, 112, 102, 98]⟩ 98 = true from rfl, show hasB ⟨#[99, 108, 112, 102, 98]⟩ 115 = false from rfl]
  simp only [List.all_cons, List.all_nil, rgB, dA, dB, dC, dD, dE, rConn, rZx, connB, epB, zxB, zxOk, txB15, hk]
  have htx := tx_zx p.tx
  obtain ⟨g1, g2, g3, g4, g5, g6, g7, g8, g9, g10, g11, g12, g13, g14, g15, g16, g17, g18, g19, g20, g21, g22, g23, g24, g25, g26, g27⟩ := hg
  rw [show ((⟨#[99, 108, 112, 102, 98]⟩ : ByteArray).toList == []) = false from by decide +kernel]
  clear l e hk
  generalize p.cnt = cn
  generalize p.fin = fi
  generalize txOk p.tx = ok at *
  generalize p.bys.length = bl
  generalize p.tx.ep = te at *
  generalize p.tx.n = tn at *
  generalize zcmp te tn p.pe p.pn = zc
  rw [Bool.eq_iff_iff]
  simp
  grind

theorem same_7 {p : PkD} {tz : Bool} (hg : p.good) (hk : p.kind = 7) : chkP p tz = docB p tz := by
  have e : nmP p.kind = 47 := by rw [hk]; decide
  have l : lt15 p.kind = ⟨#[99, 108, 112, 101, 122]⟩ := by rw [hk]; rfl
  unfold chkP docB
  rw [e, fl_47, l, hk]
  unfold fillP
  rw [am_47]
  simp only [show hasB ⟨#[99, 108, 112, 101, 122]⟩ 99 = true from rfl, show hasB ⟨#[99, 108, 112, 101, 122]⟩ 108 = true from rfl, show hasB ⟨#[99, 108, 112, 101, 122]⟩ 112 = true from rfl, show hasB ⟨#[99, 108, 112, 101, 122]⟩ 101 = true from rfl, show hasB ⟨#[99, 108, 112, 101, 122]⟩ 117 = false from rfl, show hasB ⟨#[99, 108, 112, 101, 122]⟩ 122 = true from rfl, show hasB ⟨#[99, 108, 112, 101, 122]⟩ 118 = false from rfl, show hasB ⟨#[99, 108, 112, 101, 122]⟩ 111 = false from rfl, show hasB ⟨#[99, 108, 112, 101, 122]⟩ 102 = false from rfl, show hasB ⟨#[99, 108, 112, 101, 122]⟩ 116 = false from rfl, show hasB ⟨#[99, 108, 112, 101, 122]⟩ 98 = false from rfl, show hasB ⟨#[99, 108, 112, 101, 122]⟩ 115 = false from rfl]
  simp only [List.all_cons, List.all_nil, rgB, dA, dB, dC, dD, dE, rConn, rZx, connB, epB, zxB, zxOk, txB15, hk]
  have htx := tx_zx p.tx
  obtain ⟨g1, g2, g3, g4, g5, g6, g7, g8, g9, g10, g11, g12, g13, g14, g15, g16, g17, g18, g19, g20, g21, g22, g23, g24, g25, g26, g27⟩ := hg
  rw [show ((⟨#[99, 108, 112, 101, 122]⟩ : ByteArray).toList == []) = false from by decide +kernel]
  clear l e hk
  generalize p.cnt = cn
  generalize p.fin = fi
  generalize txOk p.tx = ok at *
  generalize p.bys.length = bl
  generalize p.tx.ep = te at *
  generalize p.tx.n = tn at *
  generalize zcmp te tn p.pe p.pn = zc
  rw [Bool.eq_iff_iff]
  simp
  grind

theorem same_8 {p : PkD} {tz : Bool} (hg : p.good) (hk : p.kind = 8) : chkP p tz = docB p tz := by
  have e : nmP p.kind = 15 := by rw [hk]; decide
  have l : lt15 p.kind = ⟨#[99, 108, 112, 101]⟩ := by rw [hk]; rfl
  unfold chkP docB
  rw [e, fl_15, l, hk]
  unfold fillP
  rw [am_15]
  simp only [show hasB ⟨#[99, 108, 112, 101]⟩ 99 = true from rfl, show hasB ⟨#[99, 108, 112, 101]⟩ 108 = true from rfl, show hasB ⟨#[99, 108, 112, 101]⟩ 112 = true from rfl, show hasB ⟨#[99, 108, 112, 101]⟩ 101 = true from rfl, show hasB ⟨#[99, 108, 112, 101]⟩ 117 = false from rfl, show hasB ⟨#[99, 108, 112, 101]⟩ 122 = false from rfl, show hasB ⟨#[99, 108, 112, 101]⟩ 118 = false from rfl, show hasB ⟨#[99, 108, 112, 101]⟩ 111 = false from rfl, show hasB ⟨#[99, 108, 112, 101]⟩ 102 = false from rfl, show hasB ⟨#[99, 108, 112, 101]⟩ 116 = false from rfl, show hasB ⟨#[99, 108, 112, 101]⟩ 98 = false from rfl, show hasB ⟨#[99, 108, 112, 101]⟩ 115 = false from rfl]
  simp only [List.all_cons, List.all_nil, rgB, dA, dB, dC, dD, dE, rConn, rZx, connB, epB, zxB, zxOk, txB15, hk]
  have htx := tx_zx p.tx
  obtain ⟨g1, g2, g3, g4, g5, g6, g7, g8, g9, g10, g11, g12, g13, g14, g15, g16, g17, g18, g19, g20, g21, g22, g23, g24, g25, g26, g27⟩ := hg
  rw [show ((⟨#[99, 108, 112, 101]⟩ : ByteArray).toList == []) = false from by decide +kernel]
  clear l e hk
  generalize p.cnt = cn
  generalize p.fin = fi
  generalize txOk p.tx = ok at *
  generalize p.bys.length = bl
  generalize p.tx.ep = te at *
  generalize p.tx.n = tn at *
  generalize zcmp te tn p.pe p.pn = zc
  rw [Bool.eq_iff_iff]
  simp
  grind

theorem same_9 {p : PkD} {tz : Bool} (hg : p.good) (hk : p.kind = 9) : chkP p tz = docB p tz := by
  have e : nmP p.kind = 39 := by rw [hk]; decide
  have l : lt15 p.kind = ⟨#[99, 108, 112, 122]⟩ := by rw [hk]; rfl
  unfold chkP docB
  rw [e, fl_39, l, hk]
  unfold fillP
  rw [am_39]
  simp only [show hasB ⟨#[99, 108, 112, 122]⟩ 99 = true from rfl, show hasB ⟨#[99, 108, 112, 122]⟩ 108 = true from rfl, show hasB ⟨#[99, 108, 112, 122]⟩ 112 = true from rfl, show hasB ⟨#[99, 108, 112, 122]⟩ 101 = false from rfl, show hasB ⟨#[99, 108, 112, 122]⟩ 117 = false from rfl, show hasB ⟨#[99, 108, 112, 122]⟩ 122 = true from rfl, show hasB ⟨#[99, 108, 112, 122]⟩ 118 = false from rfl, show hasB ⟨#[99, 108, 112, 122]⟩ 111 = false from rfl, show hasB ⟨#[99, 108, 112, 122]⟩ 102 = false from rfl, show hasB ⟨#[99, 108, 112, 122]⟩ 116 = false from rfl, show hasB ⟨#[99, 108, 112, 122]⟩ 98 = false from rfl, show hasB ⟨#[99, 108, 112, 122]⟩ 115 = false from rfl]
  simp only [List.all_cons, List.all_nil, rgB, dA, dB, dC, dD, dE, rConn, rZx, connB, epB, zxB, zxOk, txB15, hk]
  have htx := tx_zx p.tx
  obtain ⟨g1, g2, g3, g4, g5, g6, g7, g8, g9, g10, g11, g12, g13, g14, g15, g16, g17, g18, g19, g20, g21, g22, g23, g24, g25, g26, g27⟩ := hg
  rw [show ((⟨#[99, 108, 112, 122]⟩ : ByteArray).toList == []) = false from by decide +kernel]
  clear l e hk
  generalize p.cnt = cn
  generalize p.fin = fi
  generalize txOk p.tx = ok at *
  generalize p.bys.length = bl
  generalize p.tx.ep = te at *
  generalize p.tx.n = tn at *
  generalize zcmp te tn p.pe p.pn = zc
  rw [Bool.eq_iff_iff]
  simp
  grind

theorem same_10 {p : PkD} {tz : Bool} (hg : p.good) (hk : p.kind = 10) : chkP p tz = docB p tz := by
  have e : nmP p.kind = 583 := by rw [hk]; decide
  have l : lt15 p.kind = ⟨#[99, 108, 112, 118, 116]⟩ := by rw [hk]; rfl
  unfold chkP docB
  rw [e, fl_583, l, hk]
  unfold fillP
  rw [am_583]
  simp only [show hasB ⟨#[99, 108, 112, 118, 116]⟩ 99 = true from rfl, show hasB ⟨#[99, 108, 112, 118, 116]⟩ 108 = true from rfl, show hasB ⟨#[99, 108, 112, 118, 116]⟩ 112 = true from rfl, show hasB ⟨#[99, 108, 112, 118, 116]⟩ 101 = false from rfl, show hasB ⟨#[99, 108, 112, 118, 116]⟩ 117 = false from rfl, show hasB ⟨#[99, 108, 112, 118, 116]⟩ 122 = false from rfl, show hasB ⟨#[99, 108, 112, 118, 116]⟩ 118 = true from rfl, show hasB ⟨#[99, 108, 112, 118, 116]⟩ 111 = false from rfl, show hasB ⟨#[99, 108, 112, 118, 116]⟩ 102 = false from rfl, show hasB ⟨#[99, 108, 112, 118, 116]⟩ 116 = true from rfl, show hasB ⟨#[99, 108, 112, 118, 116]⟩ 98 = false from rfl, show hasB ⟨#[99, 108, 112, 118, 116]⟩ 115 = false from rfl]
  simp only [List.all_cons, List.all_nil, rgB, dA, dB, dC, dD, dE, rConn, rZx, connB, epB, zxB, zxOk, txB15, hk]
  have htx := tx_zx p.tx
  obtain ⟨g1, g2, g3, g4, g5, g6, g7, g8, g9, g10, g11, g12, g13, g14, g15, g16, g17, g18, g19, g20, g21, g22, g23, g24, g25, g26, g27⟩ := hg
  rw [show ((⟨#[99, 108, 112, 118, 116]⟩ : ByteArray).toList == []) = false from by decide +kernel]
  clear l e hk
  generalize p.cnt = cn
  generalize p.fin = fi
  generalize txOk p.tx = ok at *
  generalize p.bys.length = bl
  generalize p.tx.ep = te at *
  generalize p.tx.n = tn at *
  generalize zcmp te tn p.pe p.pn = zc
  rw [Bool.eq_iff_iff]
  simp
  grind

theorem same_11 {p : PkD} {tz : Bool} (hg : p.good) (hk : p.kind = 11) : chkP p tz = docB p tz := by
  have e : nmP p.kind = 39 := by rw [hk]; decide
  have l : lt15 p.kind = ⟨#[99, 108, 112, 122]⟩ := by rw [hk]; rfl
  unfold chkP docB
  rw [e, fl_39, l, hk]
  unfold fillP
  rw [am_39]
  simp only [show hasB ⟨#[99, 108, 112, 122]⟩ 99 = true from rfl, show hasB ⟨#[99, 108, 112, 122]⟩ 108 = true from rfl, show hasB ⟨#[99, 108, 112, 122]⟩ 112 = true from rfl, show hasB ⟨#[99, 108, 112, 122]⟩ 101 = false from rfl, show hasB ⟨#[99, 108, 112, 122]⟩ 117 = false from rfl, show hasB ⟨#[99, 108, 112, 122]⟩ 122 = true from rfl, show hasB ⟨#[99, 108, 112, 122]⟩ 118 = false from rfl, show hasB ⟨#[99, 108, 112, 122]⟩ 111 = false from rfl, show hasB ⟨#[99, 108, 112, 122]⟩ 102 = false from rfl, show hasB ⟨#[99, 108, 112, 122]⟩ 116 = false from rfl, show hasB ⟨#[99, 108, 112, 122]⟩ 98 = false from rfl, show hasB ⟨#[99, 108, 112, 122]⟩ 115 = false from rfl]
  simp only [List.all_cons, List.all_nil, rgB, dA, dB, dC, dD, dE, rConn, rZx, connB, epB, zxB, zxOk, txB15, hk]
  have htx := tx_zx p.tx
  obtain ⟨g1, g2, g3, g4, g5, g6, g7, g8, g9, g10, g11, g12, g13, g14, g15, g16, g17, g18, g19, g20, g21, g22, g23, g24, g25, g26, g27⟩ := hg
  rw [show ((⟨#[99, 108, 112, 122]⟩ : ByteArray).toList == []) = false from by decide +kernel]
  clear l e hk
  generalize p.cnt = cn
  generalize p.fin = fi
  generalize txOk p.tx = ok at *
  generalize p.bys.length = bl
  generalize p.tx.ep = te at *
  generalize p.tx.n = tn at *
  generalize zcmp te tn p.pe p.pn = zc
  rw [Bool.eq_iff_iff]
  simp
  grind

theorem same_12 {p : PkD} {tz : Bool} (hg : p.good) (hk : p.kind = 12) : chkP p tz = docB p tz := by
  have e : nmP p.kind = 39 := by rw [hk]; decide
  have l : lt15 p.kind = ⟨#[99, 108, 112, 122]⟩ := by rw [hk]; rfl
  unfold chkP docB
  rw [e, fl_39, l, hk]
  unfold fillP
  rw [am_39]
  simp only [show hasB ⟨#[99, 108, 112, 122]⟩ 99 = true from rfl, show hasB ⟨#[99, 108, 112, 122]⟩ 108 = true from rfl, show hasB ⟨#[99, 108, 112, 122]⟩ 112 = true from rfl, show hasB ⟨#[99, 108, 112, 122]⟩ 101 = false from rfl, show hasB ⟨#[99, 108, 112, 122]⟩ 117 = false from rfl, show hasB ⟨#[99, 108, 112, 122]⟩ 122 = true from rfl, show hasB ⟨#[99, 108, 112, 122]⟩ 118 = false from rfl, show hasB ⟨#[99, 108, 112, 122]⟩ 111 = false from rfl, show hasB ⟨#[99, 108, 112, 122]⟩ 102 = false from rfl, show hasB ⟨#[99, 108, 112, 122]⟩ 116 = false from rfl, show hasB ⟨#[99, 108, 112, 122]⟩ 98 = false from rfl, show hasB ⟨#[99, 108, 112, 122]⟩ 115 = false from rfl]
  simp only [List.all_cons, List.all_nil, rgB, dA, dB, dC, dD, dE, rConn, rZx, connB, epB, zxB, zxOk, txB15, hk]
  have htx := tx_zx p.tx
  obtain ⟨g1, g2, g3, g4, g5, g6, g7, g8, g9, g10, g11, g12, g13, g14, g15, g16, g17, g18, g19, g20, g21, g22, g23, g24, g25, g26, g27⟩ := hg
  rw [show ((⟨#[99, 108, 112, 122]⟩ : ByteArray).toList == []) = false from by decide +kernel]
  clear l e hk
  generalize p.cnt = cn
  generalize p.fin = fi
  generalize txOk p.tx = ok at *
  generalize p.bys.length = bl
  generalize p.tx.ep = te at *
  generalize p.tx.n = tn at *
  generalize zcmp te tn p.pe p.pn = zc
  rw [Bool.eq_iff_iff]
  simp
  grind

theorem same_13 {p : PkD} {tz : Bool} (hg : p.good) (hk : p.kind = 13) : chkP p tz = docB p tz := by
  have e : nmP p.kind = 519 := by rw [hk]; decide
  have l : lt15 p.kind = ⟨#[99, 108, 112, 116]⟩ := by rw [hk]; rfl
  unfold chkP docB
  rw [e, fl_519, l, hk]
  unfold fillP
  rw [am_519]
  simp only [show hasB ⟨#[99, 108, 112, 116]⟩ 99 = true from rfl, show hasB ⟨#[99, 108, 112, 116]⟩ 108 = true from rfl, show hasB ⟨#[99, 108, 112, 116]⟩ 112 = true from rfl, show hasB ⟨#[99, 108, 112, 116]⟩ 101 = false from rfl, show hasB ⟨#[99, 108, 112, 116]⟩ 117 = false from rfl, show hasB ⟨#[99, 108, 112, 116]⟩ 122 = false from rfl, show hasB ⟨#[99, 108, 112, 116]⟩ 118 = false from rfl, show hasB ⟨#[99, 108, 112, 116]⟩ 111 = false from rfl, show hasB ⟨#[99, 108, 112, 116]⟩ 102 = false from rfl, show hasB ⟨#[99, 108, 112, 116]⟩ 116 = true from rfl, show hasB ⟨#[99, 108, 112, 116]⟩ 98 = false from rfl, show hasB ⟨#[99, 108, 112, 116]⟩ 115 = false from rfl]
  simp only [List.all_cons, List.all_nil, rgB, dA, dB, dC, dD, dE, rConn, rZx, connB, epB, zxB, zxOk, txB15, hk]
  have htx := tx_zx p.tx
  obtain ⟨g1, g2, g3, g4, g5, g6, g7, g8, g9, g10, g11, g12, g13, g14, g15, g16, g17, g18, g19, g20, g21, g22, g23, g24, g25, g26, g27⟩ := hg
  rw [show ((⟨#[99, 108, 112, 116]⟩ : ByteArray).toList == []) = false from by decide +kernel]
  clear l e hk
  generalize p.cnt = cn
  generalize p.fin = fi
  generalize txOk p.tx = ok at *
  generalize p.bys.length = bl
  generalize p.tx.ep = te at *
  generalize p.tx.n = tn at *
  generalize zcmp te tn p.pe p.pn = zc
  rw [Bool.eq_iff_iff]
  simp
  grind

theorem same_14 {p : PkD} {tz : Bool} (hg : p.good) (hk : p.kind = 14) : chkP p tz = docB p tz := by
  have e : nmP p.kind = 2055 := by rw [hk]; decide
  have l : lt15 p.kind = ⟨#[99, 108, 112, 115]⟩ := by rw [hk]; rfl
  unfold chkP docB
  rw [e, fl_2055, l, hk]
  unfold fillP
  rw [am_2055]
  simp only [show hasB ⟨#[99, 108, 112, 115]⟩ 99 = true from rfl, show hasB ⟨#[99, 108, 112, 115]⟩ 108 = true from rfl, show hasB ⟨#[99, 108, 112, 115]⟩ 112 = true from rfl, show hasB ⟨#[99, 108, 112, 115]⟩ 101 = false from rfl, show hasB ⟨#[99, 108, 112, 115]⟩ 117 = false from rfl, show hasB ⟨#[99, 108, 112, 115]⟩ 122 = false from rfl, show hasB ⟨#[99, 108, 112, 115]⟩ 118 = false from rfl, show hasB ⟨#[99, 108, 112, 115]⟩ 111 = false from rfl, show hasB ⟨#[99, 108, 112, 115]⟩ 102 = false from rfl, show hasB ⟨#[99, 108, 112, 115]⟩ 116 = false from rfl, show hasB ⟨#[99, 108, 112, 115]⟩ 98 = false from rfl, show hasB ⟨#[99, 108, 112, 115]⟩ 115 = true from rfl]
  simp only [List.all_cons, List.all_nil, rgB, dA, dB, dC, dD, dE, rConn, rZx, connB, epB, zxB, zxOk, txB15, hk]
  have htx := tx_zx p.tx
  obtain ⟨g1, g2, g3, g4, g5, g6, g7, g8, g9, g10, g11, g12, g13, g14, g15, g16, g17, g18, g19, g20, g21, g22, g23, g24, g25, g26, g27⟩ := hg
  rw [show ((⟨#[99, 108, 112, 115]⟩ : ByteArray).toList == []) = false from by decide +kernel]
  clear l e hk
  generalize p.cnt = cn
  generalize p.fin = fi
  generalize txOk p.tx = ok at *
  generalize p.bys.length = bl
  generalize p.tx.ep = te at *
  generalize p.tx.n = tn at *
  generalize zcmp te tn p.pe p.pn = zc
  rw [Bool.eq_iff_iff]
  simp
  grind

theorem same_none {p : PkD} {tz : Bool} (hk : p.kind < 1 ∨ 14 < p.kind) : chkP p tz = docB p tz := by
  have e : nmP p.kind = 0 := by unfold nmP; rw [if_pos hk]
  have l : lt15 p.kind = ⟨#[]⟩ := by
    unfold lt15
    rw [if_neg (by omega), if_neg (by omega), if_neg (by omega), if_neg (by omega), if_neg (by omega), if_neg (by omega), if_neg (by omega), if_neg (by omega), if_neg (by omega)]
  unfold chkP docB dA
  rw [e, l, show ((⟨#[]⟩ : ByteArray).toList == []) = true from by decide +kernel]
  simp

theorem chk_doc {p : PkD} {tz : Bool} (hg : p.good) : chkP p tz = docB p tz := by
  by_cases hk : p.kind < 1 ∨ 14 < p.kind
  · exact same_none hk
  have : p.kind = 1 ∨ p.kind = 2 ∨ p.kind = 3 ∨ p.kind = 4 ∨ p.kind = 5 ∨ p.kind = 6 ∨ p.kind = 7 ∨ p.kind = 8 ∨ p.kind = 9 ∨ p.kind = 10 ∨ p.kind = 11 ∨ p.kind = 12 ∨ p.kind = 13 ∨ p.kind = 14 := by omega
  rcases this with h | h | h | h | h | h | h | h | h | h | h | h | h | h
  · exact same_1 hg h
  · exact same_2 hg h
  · exact same_3 hg h
  · exact same_4 hg h
  · exact same_5 hg h
  · exact same_6 hg h
  · exact same_7 hg h
  · exact same_8 hg h
  · exact same_9 hg h
  · exact same_10 hg h
  · exact same_11 hg h
  · exact same_12 hg h
  · exact same_13 hg h
  · exact same_14 hg h

end Go.Proofs.YtldcbabgommghaaGreatDoor
