/- A clock of one's own beside what came in: what its calls leave. -/
import Derived.Test.YtmohpcoiobcncaaSeI
import Derived.Test.YtmohpcoiobcncaaSeQ
namespace Go.Proofs.Ytmohpcoiobcncaa
open Go.RowKit Go.Shelf
set_option maxRecDepth 8000
set_option linter.unusedSimpArgs false

/-- A clock that a call has made since w. -/
structure En (w wr : World) (c m s : Nat) (t span : Int) (l : List LfT) : Prop where
  ck : Ck wr c m s t span l
  nb : ∀ k, FtC c m s k → w.heap.size ≤ k
  bl : Below w.heap.size w wr
theorem En.drewN {w wr : World} {c m s : Nat} {t span : Int} {l : List LfT} (h : En w wr c m s t span l) (n : Nat) : En w (wr.drewN n) c m s t span l := ⟨h.ck.drewN n, h.nb, ⟨h.bl.os, h.bl.tape, h.bl.output, h.bl.size, h.bl.block⟩⟩
theorem En.turn {w wr w' : World} {c m s : Nat} {t t' span : Int} {l l' : List LfT} (h : En w wr c m s t span l) (hc : Ck w' c m s t' span l') (hk : Kept wr w' (TuC c m)) : En w w' c m s t' span l' :=
  ⟨hc, h.nb, h.bl.trans (hk.below h.bl.size (fun k hk => by rcases hk with rfl | rfl; exact h.nb _ (.inl rfl); exact h.nb _ (.inr (.inl rfl))))⟩
theorem En.turnM {w wr w' : World} {c m s : Nat} {t t' span : Int} {l l' : List LfT} (h : En w wr c m s t span l) (hc : Ck w' c m s t' span l') (hk : Kept wr w' (fun k => k = m)) : En w w' c m s t' span l' :=
  h.turn hc (hk.mono (fun _ _ e => .inr e))
theorem En.grow {w wr w' : World} {c m s : Nat} {t span : Int} {l : List LfT} (h : En w wr c m s t span l) (hb : Below wr.heap.size wr w') : En w w' c m s t span l :=
  ⟨h.ck.below hb, h.nb, h.bl.trans (hb.mono h.bl.size)⟩

theorem en_tick {w wr : World} {c m s : Nat} {t span : Int} {l : List LfT} (h : En w wr c m s t span l) (hnd : (ids l).Nodup) (hl : l.length ≤ 1000) (h3 : 0 ≤ t) (h4 : t ≤ 4000000000000000000) :
    Calls Try.prog 9 #[.pointer (some ⟨c, 0, none⟩)] wr fun e w' => ∃ a cp, e = .returned (.slice a (tolL l (t + 1)).length cp) ∧ Hid (OI w' wr.heap.size (.slice a (tolL l (t + 1)).length cp) (tolL l (t + 1)) ∧ En w w' c m s (t + 1) span (goL l (t + 1))) := by
  refine (tick_any h.ck hnd hl h3 h4).mono (fun e w' hh => ?_)
  obtain ⟨u, rfl, q1, q2, q3⟩ := hh
  obtain ⟨a, cp, rfl⟩ := rowS q1
  exact ⟨a, cp, rfl, q1, h.turn q2 q3⟩
theorem en_add {w wr : World} {c m s : Nat} {t span : Int} {l : List LfT} (h : En w wr c m s t span l) (id tm : Int) (h1 : 1 ≤ span) (h2 : span ≤ 1000) (h3 : 0 ≤ t) (h4 : t ≤ 4000000000000000000) :
    Calls Try.prog 10 #[.pointer (some ⟨c, 0, none⟩), .int .i64 id, .int .i32 tm] wr fun e w' => e = .returned (.int .i64 (addE l id tm)) ∧ Hid (En w w' c m s t span (addL l id tm (upT (t + tm) span))) :=
  (add_any h.ck id tm h1 h2 h3 h4).mono (fun _ _ hh => ⟨hh.1, h.turnM hh.2.1 hh.2.2⟩)
theorem en_due {w wr : World} {c m s : Nat} {t span : Int} {l : List LfT} (h : En w wr c m s t span l) (id : Int) :
    Calls Try.prog 11 #[.pointer (some ⟨c, 0, none⟩), .int .i64 id] wr fun e w' => e = .returned (.tuple #[.int .i64 (lookV l id).2.2, .bool (getL l id).isSome]) ∧ Hid (En w w' c m s t span l) :=
  (due_any h.ck id).mono (fun _ _ hh => ⟨hh.1, h.grow hh.2⟩)
theorem en_touch_no {w wr : World} {c m s : Nat} {t span : Int} {l : List LfT} (h : En w wr c m s t span l) (id : Int) (hy : getL l id = none) :
    Calls Try.prog 12 #[.pointer (some ⟨c, 0, none⟩), .int .i64 id] wr fun e w' => e = .returned (.int .i64 75) ∧ Hid (En w w' c m s t span l) :=
  (touch_no h.ck id hy).mono (fun _ _ hh => ⟨hh.1, h.grow hh.2⟩)
theorem en_touch_yes {w wr : World} {c m s : Nat} {t span : Int} {l : List LfT} (h : En w wr c m s t span l) (id : Int) (y : LfT) (h1 : 1 ≤ span) (h2 : span ≤ 1000) (h3 : 0 ≤ t) (h4 : t ≤ 4000000000000000000) (hy : getL l id = some y) (h5 : 1 ≤ y.2.1) (h6 : y.2.1 ≤ 1000) :
    Calls Try.prog 12 #[.pointer (some ⟨c, 0, none⟩), .int .i64 id] wr fun e w' => e = .returned (.int .i64 0) ∧ Hid (En w w' c m s t span (putL l (id, y.2.1, upT (t + y.2.1) span))) :=
  (touch_yes h.ck id y h1 h2 h3 h4 hy h5 h6).mono (fun _ _ hh => ⟨hh.1, h.turnM hh.2.1 hh.2.2⟩)
theorem en_new (span : Int) (w w1 : World) (hb : Below w.heap.size w w1) (h1 : 1 ≤ span) (h2 : span ≤ 1000) : Calls Try.prog 7 #[.int .i64 span] w1 fun e w' => ∃ c m s, e = .returned (.tuple #[.pointer (some ⟨c, 0, none⟩), .int .i64 0]) ∧ Hid (En w w' c m s 0 span []) := by
  refine (new_yes span w1 h1 h2).mono (fun e w' hh => ⟨_, _, _, hh.1, hh.2.1, fun k hk => ?_, hb.trans (hh.2.2.mono hb.size)⟩)
  have := hb.size
  rcases hk with rfl | rfl | rfl <;> omega

end Go.Proofs.Ytmohpcoiobcncaa
