/- Messages in memory, a net in memory; what link.New, isNone and has answer. -/
import Derived.Test.YtldcbabgommghaaGreatDoorCopyTJ
import Derived.Test.YtldcbabgommghaaGreatDoorBgAJ
import Derived.Deep.RegionHeld
import Derived.Test.YtldcbabgommghaaGreatDoorCopyXJ
import Derived.Test.YtldcbabgommghaaGreatDoorPkQJ
import Derived.Deep.MidRow
namespace Go.Proofs.YtldcbabgommghaaGreatDoor
open Go.RowKit
set_option maxRecDepth 8000

theorem rowKl {w w' : World} {S : Nat → Prop} {base : Nat} {T : TypeId} {z n : Nat} {v : Value} {xs : List Value} (h : w.ownsRow base T z v n xs) (hk : Kept w w' S) (hn : ∀ g, v.ownBlock = some g → ¬ S g) : w'.ownsRow base T z v n xs := by
  obtain ⟨h1, h2 | ⟨g, cap, cur, rfl, a2, a3, a4⟩⟩ := h
  · exact ⟨h1, .inl h2⟩
  · exact ⟨h1, .inr ⟨g, cap, cur, rfl, a2, hk.heap a3 (hn g rfl), a4⟩⟩
theorem rowTl {w : World} {base : Nat} {T : TypeId} {z n : Nat} {v : Value} {xs : List Value} (h : w.ownsRow base T z v n xs) {g : Nat} (hg : v.ownBlock = some g) : ∃ cs, w.heap[g]? = some (.cells cs T (0, 0)) := by
  obtain ⟨_, ⟨rfl, _⟩ | ⟨g', cap, cur, rfl, _, a3, _⟩⟩ := h
  · cases hg
  · simp [Value.ownBlock] at hg
    subst hg
    exact ⟨cur, a3⟩
theorem rowSl {w : World} {base : Nat} {T : TypeId} {z n : Nat} {v : Value} {xs : List Value} (h : w.ownsRow base T z v n xs) : ∃ a c, v = .slice a n c := by
  obtain ⟨_, ⟨rfl, rfl⟩ | ⟨g', cap, cur, rfl, _⟩⟩ := h
  · exact ⟨_, _, rfl⟩
  · exact ⟨_, _, rfl⟩
theorem infoXl {T : TypeId} {z : Value} {s b : Nat} (h : (Tryz.prog.info? T).map (fun i => (i.zero, i.size, i.bytes)) = some (some z, s, b)) : ∃ i, Tryz.prog.info? T = some i ∧ i.zero = some z ∧ i.size = s ∧ i.bytes = b := by
  cases hh : Tryz.prog.info? T with
  | none => rw [hh] at h; simp at h
  | some i => rw [hh] at h; simp at h; exact ⟨i, rfl, h.1, h.2.1, h.2.2⟩
theorem oneL (w : World) (o : Obj) : Below w.heap.size w (w.alloc o) := (Below.refl _ _).alloc (Nat.le_refl _) _
theorem boxL {w w' : World} {o : Obj} {k : Nat} (h : w.heap[k]? = some o) (hB : Below w.heap.size w w') : w'.heap[k]? = some o := (hB.block _ (lt_of_block h)).trans h
theorem row_lowerl {w : World} {base base' : Nat} {T : TypeId} {z n : Nat} {v : Value} {xs : List Value} (h : w.ownsRow base T z v n xs) (hb : base' ≤ base) : w.ownsRow base' T z v n xs := by
  obtain ⟨h1, h2 | ⟨g, cap, cur, rfl, a2, a3⟩⟩ := h
  · exact ⟨h1, .inl h2⟩
  · exact ⟨h1, .inr ⟨g, cap, cur, rfl, Nat.le_trans hb a2, a3⟩⟩

/-- A message: from, to, its bytes, whether one of them was turned; where its bytes lie. -/
structure MsD where
  f : Int
  t : Int
  bs : List Int
  sp : Bool
  g : Nat
  off : Nat
  c : Nat
@[reducible] def MsD.v (m : MsD) : Value := .slice (some ⟨m.g, m.off, none⟩) m.bs.length m.c
@[reducible] def MsD.cs (m : MsD) : List Value := [.int .i8 m.f, .int .i8 m.t, m.v, .bool m.sp]
def msFlat : List MsD → List Value
  | [] => []
  | m :: r => .int .i8 m.f :: .int .i8 m.t :: m.v :: .bool m.sp :: msFlat r
theorem msFlat_len : ∀ l : List MsD, (msFlat l).length = l.length * 4
  | [] => rfl
  | x :: r => by simp [msFlat, msFlat_len r]; omega
theorem msFlat_app : ∀ (l m : List MsD), msFlat (l ++ m) = msFlat l ++ msFlat m
  | [], _ => rfl
  | x :: r, m => by simp [msFlat, msFlat_app r m]
theorem msFlat_at : ∀ (l : List MsD) (i : Nat) (x : MsD), l[i]? = some x → (msFlat l)[i * 4]? = some (.int .i8 x.f) ∧ (msFlat l)[i * 4 + 1]? = some (.int .i8 x.t) ∧ (msFlat l)[i * 4 + 2]? = some x.v ∧ (msFlat l)[i * 4 + 3]? = some (.bool x.sp)
  | y :: r, 0, x, h => by simp at h; subst h; exact ⟨rfl, rfl, rfl, rfl⟩
  | y :: r, i + 1, x, h => by
    have := msFlat_at r i x (by simpa using h)
    rw [show (i + 1) * 4 = i * 4 + 1 + 1 + 1 + 1 by omega]
    exact this
theorem msFlat_cell : ∀ (l : List MsD), ∀ u ∈ msFlat l, u.oneCell' = true
  | [], u, h => by simp [msFlat] at h
  | x :: r, u, h => by
    simp only [msFlat, List.mem_cons] at h
    rcases h with rfl | rfl | rfl | rfl | h
    · rfl
    · rfl
    · rfl
    · rfl
    · exact msFlat_cell r u h

/-- A message's cells at a place. -/
structure MsAt (w : World) (b o : Nat) (m : MsD) : Prop where
  c0 : w.cell? ⟨b, o, none⟩ = some (.int .i8 m.f)
  c1 : w.cell? ⟨b, o + 1, none⟩ = some (.int .i8 m.t)
  c2 : w.cell? ⟨b, o + 2, none⟩ = some m.v
  c3 : w.cell? ⟨b, o + 3, none⟩ = some (.bool m.sp)
theorem MsAt.kept {w w' : World} {S : Nat → Prop} {b o : Nat} {m : MsD} (h : MsAt w b o m) (hk : Kept w w' S) (hn : ¬ S b) : MsAt w' b o m := ⟨hk.cell h.c0 hn, hk.cell h.c1 hn, hk.cell h.c2 hn, hk.cell h.c3 hn⟩
theorem MsAt.below {w w' : World} {b o : Nat} {m : MsD} (h : MsAt w b o m) (hk : Below w.heap.size w w') : MsAt w' b o m := h.kept (Below.kept hk) (by have := World.block_lt_of_cell? w _ h.c0; simp at this; omega)

/-- A list of messages in memory, to be read. -/
def SM (w : World) (v : Value) (l : List MsD) : Prop := ∃ ao cap, v = .slice ao l.length cap ∧ l.length ≤ cap ∧ (∀ m ∈ l, Sees w m.v m.bs) ∧ (l ≠ [] → ∃ b off, ao = some ⟨b, off, none⟩ ∧ ∀ i m, l[i]? = some m → MsAt w b (off + i * 4) m)

theorem SM_owns {w : World} {base : Nat} {v : Value} {l : List MsD} (h : w.ownsRow base 54 4 v l.length (msFlat l)) (hs : ∀ m ∈ l, Sees w m.v m.bs) : SM w v l := by
  obtain ⟨_, ⟨rfl, h0⟩ | ⟨g, cap, cur, rfl, _, a3, a4, _, _, a7⟩⟩ := h
  · have : l = [] := List.length_eq_zero_iff.1 h0
    subst this
    exact ⟨none, 0, rfl, Nat.le_refl _, hs, fun hn => absurd rfl hn⟩
  · refine ⟨_, cap, rfl, a4, hs, fun _ => ⟨g, 0, rfl, fun i x hx => ?_⟩⟩
    have hi : i < l.length := by
      rcases Nat.lt_or_ge i l.length with h' | h'
      · exact h'
      · rw [List.getElem?_eq_none h'] at hx; cases hx
    obtain ⟨e1, e2, e3, e4⟩ := msFlat_at l i x hx
    rw [← a7, List.getElem?_take, if_pos (by omega)] at e1 e2 e3 e4
    rw [Nat.zero_add]
    exact ⟨by rw [cell_of_row w g _ _ _ _ a3, ← Array.getElem?_toList]; exact e1, by rw [cell_of_row w g _ _ _ _ a3, ← Array.getElem?_toList]; exact e2, by rw [cell_of_row w g _ _ _ _ a3, ← Array.getElem?_toList]; exact e3, by rw [cell_of_row w g _ _ _ _ a3, ← Array.getElem?_toList]; exact e4⟩

theorem Tryz.infoMs : (Tryz.prog.info? 54).map (fun i => (i.zero, i.size, i.bytes)) = some (some (.agg #[.int .i8 0, .int .i8 0, .slice none 0 0, .bool false]), 4, 40) := by kernel_rfl

/-- A message under way: its bytes lie in a block of their own. -/
structure MsOk (w : World) (m : MsD) : Prop where
  off : m.off = 0
  ow : Owns w 0 m.v m.bs
  lo : 1 ≤ m.bs.length
  hi : m.bs.length ≤ 8192
  by' : Byts m.bs
theorem MsOk.lt {w : World} {m : MsD} (h : MsOk w m) : m.g < w.heap.size := (h.ow.lt m.g rfl).2
theorem MsOk.kept {w w' : World} {S : Nat → Prop} {m : MsD} (h : MsOk w m) (hk : Kept w w' S) (hn : ¬ S m.g) : MsOk w' m := ⟨h.off, h.ow.kept hk (fun k e => by cases e; exact hn), h.lo, h.hi, h.by'⟩
theorem MsOk.sees {w : World} {m : MsD} (h : MsOk w m) : Sees w m.v m.bs := Sees.own h.ow

/-- A net in memory: so many servers; its messages. -/
structure Nt (w : World) (b : Nat) (n : Int) (v : Value) (l : List MsD) : Prop where
  hb : w.heap[b]? = some (.cells #[.int .i64 n, v] 82 (0, 0))
  ho : w.ownsRow 0 54 4 v l.length (msFlat l)
  hm : ∀ m ∈ l, MsOk w m
  nd : (l.map MsD.g).Nodup
  n1 : 1 ≤ n
  n7 : n ≤ 7
/-- The blocks of a net. -/
def Fn (b : Nat) (v : Value) (l : List MsD) (k : Nat) : Prop := k = b ∨ v.ownBlock = some k ∨ ∃ m ∈ l, m.g = k

theorem Nt.lt {w : World} {b : Nat} {n : Int} {v : Value} {l : List MsD} (h : Nt w b n v l) {k : Nat} (hk : Fn b v l k) : k < w.heap.size := by
  rcases hk with rfl | hk | ⟨m, hm, rfl⟩
  · exact lt_of_block h.hb
  · exact (h.ho.lt k hk).2
  · exact (h.hm m hm).lt
theorem Nt.kept {w w' : World} {S : Nat → Prop} {b : Nat} {n : Int} {v : Value} {l : List MsD} (h : Nt w b n v l) (hk : Kept w w' S) (hn : ∀ k, Fn b v l k → ¬ S k) : Nt w' b n v l :=
  ⟨hk.heap h.hb (hn b (.inl rfl)), rowKl h.ho hk (fun g hg => hn g (.inr (.inl hg))), fun m hm => (h.hm m hm).kept hk (hn _ (.inr (.inr ⟨m, hm, rfl⟩))), h.nd, h.n1, h.n7⟩
theorem Nt.below {w w' : World} {b : Nat} {n : Int} {v : Value} {l : List MsD} (h : Nt w b n v l) (hB : Below w.heap.size w w') : Nt w' b n v l :=
  h.kept (Below.kept hB) (fun k hk => by have := h.lt hk; omega)
theorem Nt.drewN {w : World} {b : Nat} {n : Int} {v : Value} {l : List MsD} (h : Nt w b n v l) (k : Nat) : Nt (w.drewN k) b n v l := ⟨h.hb, h.ho, fun m hm => ⟨(h.hm m hm).off, (h.hm m hm).ow, (h.hm m hm).lo, (h.hm m hm).hi, (h.hm m hm).by'⟩, h.nd, h.n1, h.n7⟩
theorem Nt.c0 {w : World} {b : Nat} {n : Int} {v : Value} {l : List MsD} (h : Nt w b n v l) : w.cell? ⟨b, 0, none⟩ = some (.int .i64 n) := by rw [cell_of_row w b 0 _ _ _ h.hb]; rfl
theorem Nt.c1 {w : World} {b : Nat} {n : Int} {v : Value} {l : List MsD} (h : Nt w b n v l) : w.cell? ⟨b, 1, none⟩ = some v := by rw [cell_of_row w b 1 _ _ _ h.hb]; rfl
theorem Nt.ne {w : World} {b : Nat} {n : Int} {v : Value} {l : List MsD} (h : Nt w b n v l) : v.ownBlock ≠ some b ∧ (∀ m ∈ l, m.g ≠ b) ∧ ∀ m ∈ l, v.ownBlock ≠ some m.g := by
  refine ⟨fun e => ?_, fun m hm e => ?_, fun m hm e => ?_⟩
  · obtain ⟨cs, e'⟩ := rowTl h.ho e; have := h.hb; rw [e'] at this; simp at this
  · obtain ⟨cs, e'⟩ := rowTl (h.hm m hm).ow rfl; have := h.hb; rw [e] at e'; rw [e'] at this; simp at this
  · obtain ⟨cs, e'⟩ := rowTl (h.hm m hm).ow rfl; obtain ⟨cs', e2⟩ := rowTl h.ho e; rw [e'] at e2; simp at e2
theorem Nt.sm {w : World} {b : Nat} {n : Int} {v : Value} {l : List MsD} (h : Nt w b n v l) : SM w v l := SM_owns h.ho (fun m hm => (h.hm m hm).sees)

theorem new_good (w : World) (n : Int) (h1 : 1 ≤ n) (h7 : n ≤ 7) : Calls Tryz.prog 9 #[.int .i64 n] w fun e w' => e = .returned (.tuple #[.pointer (some ⟨w.heap.size, 0, none⟩), .int .i64 0]) ∧ Nt w' w.heap.size n (.slice none 0 0) [] ∧ Below w.heap.size w w' := by
  have d1 : decide (n < 1) = false := by simp; omega
  have d2 : decide (7 < n) = false := by simp; omega
  have HB : Hid (Nt (w.alloc (.cells #[.int .i64 n, .slice none 0 0] 82)) w.heap.size n (.slice none 0 0) [] ∧ Below w.heap.size w (w.alloc (.cells #[.int .i64 n, .slice none 0 0] 82))) :=
    ⟨⟨heap_alloc_new w _, World.ownsRow_nil _ _ _ _, fun m hm => by simp at hm, by simp, h1, h7⟩, oneL w _⟩
  go_enter Tryz.func9, Tryz.ntmps9
  go_wp2
  all_goals (go_ret2; exact ⟨rfl, HB.out⟩)

theorem isNone_noL {w : World} {b : Nat} {n : Int} {v : Value} {l : List MsD} (h : Nt w b n v l) : Calls Tryz.prog 34 #[.pointer (some ⟨b, 0, none⟩)] w fun e w' => e = .returned (.bool false) ∧ w' = w := by
  have c0 := h.c0
  have hz := lt_of_block h.hb
  have dn : (n == 0) = false := by have := h.n1; simp; omega
  clear h
  go_enter Tryz.func34, Tryz.ntmps34
  go_wp2
  all_goals (go_ret; first | exact ⟨rfl, rfl⟩ | (refine ⟨?_, rfl⟩; simp_all))

/-- Whether a server has this number. -/
def hasL (n k : Int) : Bool := decide (0 ≤ k) && decide (k < n)
theorem has_anyL {w : World} {b : Nat} {n : Int} {v : Value} {l : List MsD} (h : Nt w b n v l) (k : Int) (h0 : -128 ≤ k) (h1 : k ≤ 127) : Calls Tryz.prog 35 #[.pointer (some ⟨b, 0, none⟩), .int .i8 k] w fun e w' => e = .returned (.bool (hasL n k)) ∧ w' = w := by
  have c0 := h.c0
  have hz := lt_of_block h.hb
  have hw : IntKind.i64.wrap k = k := by rw [IntKind.wrap_i64]; omega
  unfold hasL
  by_cases q : 0 ≤ k
  · have d1 : decide (0 ≤ k) = true := by simp; omega
    rw [d1]
    clear h
    go_enter Tryz.func35, Tryz.ntmps35
    go_wp2
    all_goals (go_ret; first | exact ⟨rfl, rfl⟩ | (refine ⟨?_, rfl⟩; simp_all))
  · have d1 : decide (0 ≤ k) = false := by simp; omega
    rw [d1]
    clear h
    go_enter Tryz.func35, Tryz.ntmps35
    go_wp2
    all_goals (go_ret; first | exact ⟨rfl, rfl⟩ | (refine ⟨?_, rfl⟩; simp_all))

end Go.Proofs.YtldcbabgommghaaGreatDoor

/- CopyPacket of lagoonref00: the same packet, its lists in blocks of their own. -/
namespace Go.Proofs.YtldcbabgommghaaGreatDoor
open Go.RowKit
set_option maxRecDepth 8000
set_option linter.unusedSimpArgs false
set_option linter.unusedVariables false

theorem there_row {w : World} {b o n : Nat} {cs : Array Value} {t : TypeId} (h : w.heap[b]? = some (.cells cs t (0, 0))) (hn : o + n ≤ cs.size) : w.there b o n := fun j hj => by
  refine ⟨?_, frozen_of_row _ _ _ _ _ h⟩
  rw [cell_of_row _ _ _ _ _ _ h, Array.getElem?_eq_getElem (by omega)]
  rfl

theorem pkL_cut (p : PkD) (tc : List Value) (bv : Value) : ∃ A : List Value, A.length = 14 ∧ ∀ (tc' : List Value) (bv' : Value), pkL p tc' bv' = A ++ (tc' ++ [bv', .int .i64 p.ses]) :=
  ⟨[.int .i8 p.kind, .int .u32 p.cb, .int .u32 p.ct, .int .u32 p.lb, .int .u32 p.lt, .int .i64 p.place, .int .u32 p.ep, .int .u32 p.cur, .int .u32 p.ze, .int .u32 p.zn, .int .u32 p.pe, .int .u32 p.pn, .bool p.cnt, .bool p.fin], rfl, fun _ _ => rfl⟩

set_option maxHeartbeats 4000000 in
theorem copyPacket_any (p : PkD) (tc : List Value) (bv : Value) (w : World) (hs : SeesPk w tc bv p) (hp : p.tx.rq.parts ≤ 20000) (hb : p.bys.length ≤ 70000000000000) :
    Calls Tryz.prog 8 #[.agg (pkL p tc bv).toArray] w fun e w' => ∃ tc' bv', e = .returned (.agg (pkL p tc' bv').toArray) ∧ SeesPk w' tc' bv' p ∧ Below w.heap.size w w' := by
  have q32 := pkSz p tc bv hs.tx.len
  have q16 : (Tryz.prog.info? 37).map (·.size) = some tc.length := by rw [hs.tx.len]; kernel_rfl
  obtain ⟨V, eV⟩ : ∃ V, V = (w.alloc (.cells (pkL p tc bv).toArray 39)).alloc (.cells (zPk 0) 39) := ⟨_, rfl⟩
  have HV : Hid ((Below w.heap.size w V ∧ V.heap.size = w.heap.size + 2) ∧ PkAt V w.heap.size p tc bv ∧ V.heap[w.heap.size + 1]? = some (.cells (zPk 0) 39 (0, 0))) := by
    subst eV
    refine ⟨⟨two_alloc _ _ _, by simp⟩, ?_, ?_⟩
    · show _ = _
      rw [Below.heap_alloc _ _ _ (by simp)]; exact heap_alloc_new _ _
    · have := heap_alloc_new (w.alloc (.cells (pkL p tc bv).toArray 39)) (.cells (zPk 0) 39)
      simpa using this
  have HE : Hid _ := eV
  have HSW : Hid (SeesPk w tc bv p) := hs
  have HT : Hid (tc.length = 16) := hs.tx.len
  clear eV hs
  go_enter Tryz.func8, Tryz.ntmps8
  go_upto_region 1 with fail
  rw [← HE.out]
  clear HE
  have l14 := (HV.out.2.1.tail HT.out).1
  go_wp2_with (refine wpList_load_mid rfl 37 _ rfl w.heap.size 14 rfl tc _ l14 Tryz.underlying37 rfl q16 ?_)
  clear l14
  refine (copyTxn_any tc p.tx V (HSW.out.tx.below HV.out.1.1 (Nat.le_refl _)) hp).mono ?_
  rintro _ w1 ⟨ds, rfl, hr1, b1⟩
  obtain ⟨t4, ht4⟩ : ∃ t4, t4 = txHead p.tx ++ ds := ⟨_, rfl⟩
  have hst : SeesTx w1 t4 p.tx := ⟨ds, ht4, hr1.sees⟩
  rw [← ht4]
  have HRQ : Hid (RqIn w1 (fun k => V.heap.size ≤ k ∧ k < w1.heap.size) ds p.tx.rq ∧ t4 = txHead p.tx ++ ds) := ⟨hr1, ht4⟩
  clear ht4 hr1
  have H1 : Hid ((Below V.heap.size V w1 ∧ SeesTx w1 t4 p.tx ∧ t4.length = 16) ∧ w1.heap[w.heap.size]? = some (.cells (pkL p tc bv).toArray 39 (0, 0)) ∧ w1.heap[w.heap.size + 1]? = some (.cells (zPk 0) 39 (0, 0))) := ⟨⟨b1, hst, hst.len⟩, boxL HV.out.2.1 b1, boxL HV.out.2.2 b1⟩
  clear hst b1
  have q16b : (Tryz.prog.info? 37).map (·.size) = some t4.toArray.size := by rw [List.size_toArray, H1.out.1.2.2]; kernel_rfl
  have hth : w1.there w.heap.size 14 t4.toArray.size := there_row H1.out.2.1 (by rw [List.size_toArray, H1.out.1.2.2]; simp [pkL, HT.out])
  have h1t : t4.toArray.all (·.oneCell') = true := tx_one15 H1.out.1.2.1
  obtain ⟨w2, hw2⟩ : ∃ w2, w2 = w1.setCells w.heap.size 14 t4 := ⟨_, rfl⟩
  have H2 : Hid (Below w.heap.size w w2 ∧ PkAt w2 w.heap.size p t4 bv ∧ w2.heap[w.heap.size + 1]? = some (.cells (zPk 0) 39 (0, 0)) ∧ RqIn w2 (fun k => V.heap.size ≤ k ∧ k < w2.heap.size) ds p.tx.rq ∧ Sees w2 bv p.bys) := by
    have k2 : Kept w1 w2 (fun k => k = w.heap.size) := by rw [hw2]; exact kept_setCells _ _ _ _
    have hb1 : Below w.heap.size w w1 := HV.out.1.1.trans (H1.out.1.1.mono HV.out.1.1.size)
    have hb2 : Below w.heap.size w w2 := hb1.trans (k2.below hb1.size (fun k e => by omega))
    refine ⟨hb2, ?_, k2.heap H1.out.2.2 (by omega), ?_, HSW.out.bys.below hb2 (Nat.le_refl _)⟩
    · show w2.heap[w.heap.size]? = _
      rw [hw2, heap_setCells _ _ _ _ H1.out.2.1]
      obtain ⟨A, hA, hcut⟩ := pkL_cut p tc bv
      rw [hcut tc bv, hcut t4 bv]
      have := setFrom_mid [bv, .int .i64 p.ses] t4 tc A (by rw [HT.out, H1.out.1.2.2])
      rw [hA] at this
      rw [this]
    · refine RqIn.kept (F' := fun k => V.heap.size ≤ k ∧ k < w2.heap.size) k2 (fun k hq => ?_) HRQ.out.1
      have := HV.out.1.2
      have := k2.size
      exact ⟨by omega, by omega, by omega⟩
  have HW2 : Hid (w2 = w1.setCells w.heap.size 14 t4) := hw2
  clear hw2
  go_upto_region 2 with (refine wpList_store_mid rfl 37 _ _ rfl w.heap.size 14 t4.toArray rfl rfl hth q16b h1t ?_)
  rw [← HW2.out]
  have HT4 : Hid (t4 = txHead p.tx ++ ds ∧ t4.length = 16) := ⟨HRQ.out.2, H1.out.1.2.2⟩
  clear HW2 hth q16b h1t HRQ H1
  obtain ⟨ba, bl, bc, rfl⟩ := sees_form H2.out.2.2.2.2
  have c30 := (H2.out.2.1.tail HT4.out.2).2.1
  have hz2 := H2.out.2.1.lt
  go_wp2_with fail
  refine (copyBytes_any _ p.bys w2 H2.out.2.2.2.2 hb).mono ?_
  rintro _ w3 ⟨v3, rfl, ho3, b3⟩
  obtain ⟨a3, c3, rfl⟩ := rowSl ho3
  have hr3 : w3.heap[w.heap.size]? = some (.cells (pkL p t4 (.slice ba bl bc)).toArray 39 (0, 0)) := boxL H2.out.2.1 b3
  have c30' : w3.cell? ⟨w.heap.size, 30, none⟩ = some (.slice ba bl bc) := (Below.kept b3).cell c30 (by simp; omega)
  have f30 : w3.frozen? ⟨w.heap.size, 30, none⟩ = false := frozen_of_row _ _ _ _ _ hr3
  have hz3 := lt_of_block hr3
  obtain ⟨w4, hw4⟩ : ∃ w4, w4 = w3.setCell ⟨w.heap.size, 30, none⟩ (.slice a3 p.bys.length c3) := ⟨_, rfl⟩
  have H4 : Hid (Below w.heap.size w w4 ∧ w4.heap[w.heap.size]? = some (.cells (pkL p t4 (.slice a3 p.bys.length c3)).toArray 39 (0, 0)) ∧ w4.heap[w.heap.size + 1]? = some (.cells (zPk 0) 39 (0, 0)) ∧ RqIn w4 (fun k => V.heap.size ≤ k ∧ k < w4.heap.size) ds p.tx.rq ∧ Owns w4 V.heap.size (.slice a3 p.bys.length c3) p.bys) := by
    have k4 : Kept w3 w4 (fun k => k = w.heap.size) := by rw [hw4]; exact Kept.setCell (S := fun k => k = w.heap.size) (Kept.refl w3 _) _ _ (fun _ => rfl)
    have hV := HV.out.1.2
    have hVw : V.heap.size ≤ w2.heap.size := by
      have := H2.out.2.2.1
      have := lt_of_block this
      omega
    have hb3 : Below w.heap.size w w3 := H2.out.1.trans (b3.mono H2.out.1.size)
    refine ⟨hb3.trans (k4.below hb3.size (fun k e => by omega)), ?_, k4.heap (boxL H2.out.2.2.1 b3) (by omega), ?_, ?_⟩
    · rw [hw4, heap_setR (i := 30) _ hr3]
      rw [set30 p t4 _ HT4.out.2 _ p.bys]
    · refine RqIn.kept (F' := fun k => V.heap.size ≤ k ∧ k < w4.heap.size) (((Below.kept b3).mono (S' := fun k => w2.heap.size ≤ k ∨ k = w.heap.size) (fun _ _ e => .inl e)).trans k4 (fun _ _ e => .inr e)) (fun k hq => ?_) H2.out.2.2.2.1
      have := k4.size
      have := b3.size
      exact ⟨by omega, by omega, by omega⟩
    · exact Owns.kept (row_lowerl ho3 hVw) k4 (fun k e e2 => by have := (ho3.lt k e).1; omega)
  have HW4 : Hid (w4 = w3.setCell ⟨w.heap.size, 30, none⟩ (.slice a3 p.bys.length c3)) := hw4
  clear hw4 ho3 b3 H2 hr3 c30 hz2
  go_upto_region 3 with fail
  rw [← HW4.out]
  clear HW4 c30' f30 hz3
  have r0 := H4.out.2.1
  have r1 := H4.out.2.2.1
  have q32b := pkSz p t4 (.slice a3 p.bys.length c3) HT4.out.2
  have hst : SeesTx w4 t4 p.tx := ⟨ds, HT4.out.1, H4.out.2.2.2.1.sees⟩
  have u1 : (pkL p t4 (.slice a3 p.bys.length c3)).toArray.all (·.oneCell') = true := pk_oneS ⟨hst, Sees.own (row_lowerl H4.out.2.2.2.2 (Nat.zero_le _)), HSW.out.byt⟩
  have sz1 : (zPk 0).size = (pkL p t4 (.slice a3 p.bys.length c3)).toArray.size := by simp [pkL, HT4.out.2]
  go_wp2_with (first | (refine wpList_load_row rfl 39 _ rfl w.heap.size rfl 39 _ (0, 0) _ r0 Tryz.underlying39 rfl q32b ?_) | (refine wpList_store_row rfl 39 _ _ rfl (w.heap.size + 1) (pkL p t4 (.slice a3 p.bys.length c3)).toArray rfl rfl 39 _ r1 q32b sz1 u1 ?_))
  have k5 : Kept w4 (w4.setRow (w.heap.size + 1) (pkL p t4 (.slice a3 p.bys.length c3)).toArray) (fun k => k = w.heap.size + 1) := ⟨rfl, rfl, rfl, by simp, fun k _ hn => setRow_other _ _ _ _ hn⟩
  have hrow := setRow_heap w4 (w.heap.size + 1) _ (pkL p t4 (.slice a3 p.bys.length c3)).toArray _ _ r1
  have hV := HV.out.1.2
  refine bodyPost_ret (results_cell_row Tryz.results8 _ _ _ _ _ _ _ rfl hrow Tryz.underlying39 rfl q32b) rfl ⟨t4, _, rfl, ⟨⟨ds, HT4.out.1, (RqIn.kept (F' := fun k => V.heap.size ≤ k ∧ k < (w4.setRow (w.heap.size + 1) (pkL p t4 (.slice a3 p.bys.length c3)).toArray).heap.size) k5 (fun k hq => ?_) H4.out.2.2.2.1).sees⟩, (Sees.own (row_lowerl H4.out.2.2.2.2 (Nat.zero_le _))).kept k5 (fun k e e2 => by have := (H4.out.2.2.2.2.lt k e).1; omega), HSW.out.byt⟩, H4.out.1.trans (k5.below H4.out.1.size (fun k e => by omega))⟩
  have := k5.size
  exact ⟨by omega, by omega, by omega⟩
end Go.Proofs.YtldcbabgommghaaGreatDoor
