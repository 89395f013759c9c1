/- get of package txn at bytes that were laid: a request without inner ones. -/
import Derived.Test.YtldcbabgommghaaGreatDoorWfDJ
import Derived.Test.YtldcbabgommghaaGreatDoorPutKJ
import Derived.Test.YtldcbabgommghaaGreatDoorCopyTJ
import Derived.Deep.CutRange
namespace Go.Proofs.YtldcbabgommghaaGreatDoor
open Go.RowKit
set_option maxRecDepth 8000

set_option maxHeartbeats 400000 in
theorem getData_bk {g : Nat} {v : Value} {rest : List Int} {w : World} (ys : List Int) (h : IsR w g v ((be4 ys.length ++ ys) ++ rest) 0) (hb : Byts ((be4 ys.length ++ ys) ++ rest)) (hl : ys.length ≤ 96) :
    Calls Tryz.prog 156 #[.pointer (some ⟨g, 0, none⟩)] w fun e w' => ∃ u, e = .returned u ∧ Sees w' u ys ∧ (∀ k, u.ownBlock = some k → v.ownBlock = some k) ∧ ReadsTo w g v ⟨0, rest, 0⟩ w' := by
  have HX := gBuf ys 96 h hb (by omega) (by omega)
  clear h hb
  go_enter Tryz.func156, Tryz.ntmps156
  go_wp2_with fail
  refine HX.mono ?_
  clear HX
  rintro e w1 ⟨u, rfl, hc, hr⟩
  obtain ⟨c1, ⟨ao, rfl⟩, c3⟩ := hc
  have HR : Hid (Sees w1 (.slice ao ys.length ys.length) ys ∧ (∀ k, (Value.slice ao ys.length ys.length).ownBlock = some k → v.ownBlock = some k) ∧ ReadsTo w g v ⟨0, rest, 0⟩ w1) := ⟨c1, c3, hr⟩
  clear c1 c3 hr
  cases ys with
  | nil =>
    go_wp2_with fail
    go_ret
    exact ⟨_, rfl, sees_nil _, fun k e => by simp [Value.ownBlock] at e, HR.out.2.2⟩
  | cons y ys =>
    have hne : (((y :: ys).length : Int) == 0) = false := by simp; omega
    have HR2 : Hid (∃ zs : List Int, zs = y :: ys ∧ (zs.length : Int) = ((y :: ys).length : Int)) := ⟨_, rfl, rfl⟩
    clear HR2
    obtain ⟨m, hm⟩ : ∃ m : Nat, m = (y :: ys).length := ⟨_, rfl⟩
    rw [← hm] at HR hne ⊢
    clear hm
    go_wp2_with fail
    go_ret
    exact ⟨_, rfl, HR.out⟩

/-- What stands while a request is read: the Reader at g, the request at z. -/
structure GQ (w W : World) (l0 l1 : Int) (g : Nat) (v0 v : Value) (xs : List Int) (z : Nat) (cs : Array Value) : Prop where
  r : IsR W g v xs 0
  sub : ∀ k, v.ownBlock = some k → v0.ownBlock = some k
  q : W.heap[z]? = some (.cells cs 35 (0, 0))
  l : W.heap[w.heap.size]? = some (.cells #[.int .i8 l0, .int .u16 l1] 153 (0, 0))
  o : W.heap[w.heap.size + 1]? = some (.cells #[.int .i8 0, .string ⟨#[]⟩, .slice none 0 0, .slice none 0 0, .int .i32 0, .bool false, .bool false, .int .i64 0, .int .i32 0, .slice none 0 0, .slice none 0 0] 35 (0, 0))
  nam : Nam W
  ng : 1 < g
  zlt : w.heap.size + 1 < z
  glt : g < w.heap.size
  vlt : ∀ k, v0.ownBlock = some k → k < w.heap.size ∧ k ≠ g
  kept : Kept w W (· = g)

theorem nam_kept {w w' : World} {S : Nat → Prop} (h : Nam w) (hk : Kept w w' S) (hn : ∀ k, k ≤ 1 → ¬ S k) : Nam w' :=
  h.below (B := 1 + 1) ⟨hk.os, hk.tape, hk.output, hk.size, fun k hk' => hk.block k (by have := h.lt; omega) (hn k (by omega))⟩ (by omega)

section
variable {w W W' : World} {l0 l1 : Int} {g : Nat} {v0 v : Value} {xs ys : List Int} {z : Nat} {cs : Array Value}

theorem GQ.read (h : GQ w W l0 l1 g v0 v xs z cs) (hr : ReadsTo W g v ⟨0, ys, 0⟩ W') : ∃ v', GQ w W' l0 l1 g v0 v' ys z cs ∧ Kept W W' (· = g) := by
  obtain ⟨v', h1, h2, h3⟩ := hr
  have hz := h.zlt
  have hg := h.glt
  exact ⟨v', ⟨h1, fun k e => h.sub k (h2 k e), h3.heap h.q (by omega), h3.heap h.l (by omega), h3.heap h.o (by omega), nam_kept h.nam h3 (fun k hk e => by have := h.ng; omega), h.ng, h.zlt, h.glt, h.vlt, h.kept.trans h3 (fun _ _ h => h)⟩, h3⟩

theorem GQ.later (h : GQ w W l0 l1 g v0 v xs z cs) (hb : Below W.heap.size W W') : GQ w W' l0 l1 g v0 v xs z cs := by
  have hk := Below.kept hb
  have hs := h.kept.size
  have hg := h.glt
  have hz := lt_of_block h.q
  have hl := lt_of_block h.l
  have ho := lt_of_block h.o
  exact ⟨h.r.kept hk (by omega) (fun k hk' => by have := (h.vlt k (h.sub k hk')).1; omega), h.sub, hk.heap h.q (by omega), hk.heap h.l (by omega), hk.heap h.o (by omega), h.nam.below hb h.nam.lt, h.ng, h.zlt, h.glt, h.vlt, h.kept.trans hk (fun k hk' e => by omega)⟩

theorem GQ.set (h : GQ w W l0 l1 g v0 v xs z cs) (j : Nat) (u : Value) : GQ w (W.setCell ⟨z, j, none⟩ u) l0 l1 g v0 v xs z (cs.setIfInBounds j u) := by
  have hz := h.zlt
  have hg := h.glt
  have hk : Kept W (W.setCell ⟨z, j, none⟩ u) (fun k => k = z) := (Kept.refl W (fun k => k = z)).setCell _ _ (fun _ => rfl)
  refine ⟨h.r.kept hk (by omega) (fun k hk' => by have := (h.vlt k (h.sub k hk')).1; omega), h.sub, ?_, hk.heap h.l (by omega), hk.heap h.o (by omega), nam_kept h.nam hk (fun k hk' e => by have := h.ng; omega), h.ng, h.zlt, h.glt, h.vlt, h.kept.trans hk (fun k hk' e => by omega)⟩
  rw [heap_setCell_same W z j _ _ _ h.q]

theorem GQ.cell (h : GQ w W l0 l1 g v0 v xs z cs) (j : Nat) : W.cell? ⟨z, j, none⟩ = cs[j]? := by rw [cell_of_row W z j _ _ _ h.q]
theorem GQ.fr (h : GQ w W l0 l1 g v0 v xs z cs) (j : Nat) : W.frozen? ⟨z, j, none⟩ = false := frozen_of_row W z j _ _ h.q
theorem GQ.l0' (h : GQ w W l0 l1 g v0 v xs z cs) : W.cell? ⟨w.heap.size, 0, none⟩ = some (.int .i8 l0) ∧ W.cell? ⟨w.heap.size, 1, none⟩ = some (.int .u16 l1) := by
  constructor <;> (rw [cell_of_row W _ _ _ _ _ h.l]; rfl)
end

/-- The lists that were read so far. -/
structure SL (w W : World) (z : Nat) (v0 dv : Value) (data : List Int) (av : Value) (acl : List EnD) (wv : Value) (who : List IdD) : Prop where
  hd : Sees W dv data
  fd : ∀ k, dv.ownBlock = some k → v0.ownBlock = some k
  ha : SeesR W av 3 (acl.map EnD.cells)
  fa : ∀ k, av.ownBlock = some k → (w.heap.size ≤ k ∧ k ≠ z ∧ k ≠ w.heap.size + 1) ∧ k < W.heap.size
  hw : SeesR W wv 2 (who.map IdD.cells)
  fw : ∀ k, wv.ownBlock = some k → (w.heap.size ≤ k ∧ k ≠ z ∧ k ≠ w.heap.size + 1) ∧ k < W.heap.size

theorem SL.kept {w W W' : World} {z : Nat} {v0 dv av wv : Value} {data : List Int} {acl : List EnD} {who : List IdD} {S : Nat → Prop} (h : SL w W z v0 dv data av acl wv who) (hk : Kept W W' S) (hv : ∀ k, v0.ownBlock = some k → ¬ S k) (hS : ∀ k, w.heap.size ≤ k → k ≠ z → k ≠ w.heap.size + 1 → ¬ S k) : SL w W' z v0 dv data av acl wv who :=
  ⟨h.hd.kept hk (fun k e => hv k (h.fd k e)), h.fd, h.ha.kept hk (fun k e => hS k (h.fa k e).1.1 (h.fa k e).1.2.1 (h.fa k e).1.2.2), fun k e => ⟨(h.fa k e).1, Nat.lt_of_lt_of_le (h.fa k e).2 hk.size⟩, h.hw.kept hk (fun k e => hS k (h.fw k e).1.1 (h.fw k e).1.2.1 (h.fw k e).1.2.2), fun k e => ⟨(h.fw k e).1, Nat.lt_of_lt_of_le (h.fw k e).2 hk.size⟩⟩

theorem ownsRow_block {w : World} {B : Nat} {T : TypeId} {z n : Nat} {v : Value} {xs : List Value} (h : w.ownsRow B T z v n xs) : ∀ k, v.ownBlock = some k → B ≤ k ∧ k < w.heap.size := fun k e => h.lt k e

set_option maxHeartbeats 8000000 in
theorem get_flat (l0 l1 N kind ver ses tmo : Int) (path : ByteArray) (data : List Int) (acl : List EnD) (eph seq : Bool) (who : List IdD) (p d a v e s t o : Bool) (g : Nat) (vr : Value) (rest : List Int) (w : World)
    (h : IsR w g vr (encP p d a v e s t o ⟨kind, path, data, acl, ver, eph, seq, ses, tmo, who⟩ rest) 0) (hb : Byts (encP p d a v e s t o ⟨kind, path, data, acl, ver, eph, seq, ses, tmo, who⟩ rest)) (hn : Nam w) (hg : 1 < g) (hl0 : l0 ≤ 12) (hN : nms l0 l1 kind = N) (hN0 : (N == 0) = false)
    (m0 : (bits .and .u16 N 1 != 0) = p) (m1 : (bits .and .u16 N 2 != 0) = d) (m2 : (bits .and .u16 N 4 != 0) = a) (m3 : (bits .and .u16 N 8 != 0) = v) (m4 : (bits .and .u16 N 16 != 0) = e) (m5 : (bits .and .u16 N 32 != 0) = e) (m6 : (bits .and .u16 N 64 != 0) = s) (m7 : (bits .and .u16 N 128 != 0) = t) (m8 : (bits .and .u16 N 256 != 0) = o) (m9 : (bits .and .u16 N 512 != 0) = false)
    (hbd : bdOk ⟨kind, path, data, acl, ver, eph, seq, ses, tmo, who⟩ = true) (hgf : RqF.good ⟨kind, path, data, acl, ver, eph, seq, ses, tmo, who⟩)
    (z1 : p = false → path = ⟨#[]⟩) (z2 : d = false → data = []) (z3 : a = false → acl = []) (z4 : v = false → ver = 0) (z5 : e = false → eph = false ∧ seq = false) (z7 : s = false → ses = 0) (z8 : t = false → tmo = 0) (z9 : o = false → who = []) :
    Calls Tryz.prog 140 #[lay l0 l1, .pointer (some ⟨g, 0, none⟩)] w fun r w' => ∃ dv av wv, r = .returned (.agg (rqCells ⟨kind, path, data, acl, ver, eph, seq, ses, tmo, who⟩ dv av wv (.slice none 0 0)).toArray) ∧ Sees w' dv data ∧ (∀ k, dv.ownBlock = some k → vr.ownBlock = some k) ∧ SeesR w' av 3 (acl.map EnD.cells) ∧ (∀ k, av.ownBlock = some k → w.heap.size ≤ k ∧ k < w'.heap.size) ∧ SeesR w' wv 2 (who.map IdD.cells) ∧ (∀ k, wv.ownBlock = some k → w.heap.size ≤ k ∧ k < w'.heap.size) ∧ ReadsTo w g vr ⟨0, rest, 0⟩ w' := by
  have HBD : Hid _ := bdOk_inv hbd
  simp only at HBD
  have HGF : Hid _ := hgf
  obtain ⟨R9, hR9⟩ : ∃ R9, R9 = (if o then be4 who.length ++ idsB who else []) ++ rest := ⟨_, rfl⟩
  obtain ⟨R8, hR8⟩ : ∃ R8, R8 = (if t then be4 (up32 tmo) else []) ++ R9 := ⟨_, rfl⟩
  obtain ⟨R7, hR7⟩ : ∃ R7, R7 = (if s then be8 (up64 ses) else []) ++ R8 := ⟨_, rfl⟩
  obtain ⟨R6, hR6⟩ : ∃ R6, R6 = (if e then [b2i seq] else []) ++ R7 := ⟨_, rfl⟩
  obtain ⟨R5, hR5⟩ : ∃ R5, R5 = (if e then [b2i eph] else []) ++ R6 := ⟨_, rfl⟩
  obtain ⟨R4, hR4⟩ : ∃ R4, R4 = (if v then be4 (up32 ver) else []) ++ R5 := ⟨_, rfl⟩
  obtain ⟨R3, hR3⟩ : ∃ R3, R3 = (if a then be4 acl.length ++ acB acl else []) ++ R4 := ⟨_, rfl⟩
  obtain ⟨R2, hR2⟩ : ∃ R2, R2 = (if d then be4 data.length ++ data else []) ++ R3 := ⟨_, rfl⟩
  obtain ⟨R1, hR1⟩ : ∃ R1, R1 = (if p then txtB path else []) ++ R2 := ⟨_, rfl⟩
  have eb : encP p d a v e s t o ⟨kind, path, data, acl, ver, eph, seq, ses, tmo, who⟩ rest = [kind % 256] ++ R1 := by
    rw [hR1, hR2, hR3, hR4, hR5, hR6, hR7, hR8, hR9]
    cases e <;> simp [encP]
  rw [eb] at h hb
  have B1 : Hid (Byts R1) := hb.right
  have B2 : Hid (Byts R2) := by have h1 := B1.out; rw [hR1] at h1; exact h1.right
  have B3 : Hid (Byts R3) := by have h1 := B2.out; rw [hR2] at h1; exact h1.right
  have B4 : Hid (Byts R4) := by have h1 := B3.out; rw [hR3] at h1; exact h1.right
  have B5 : Hid (Byts R5) := by have h1 := B4.out; rw [hR4] at h1; exact h1.right
  have B6 : Hid (Byts R6) := by have h1 := B5.out; rw [hR5] at h1; exact h1.right
  have B7 : Hid (Byts R7) := by have h1 := B6.out; rw [hR6] at h1; exact h1.right
  have B8 : Hid (Byts R8) := by have h1 := B7.out; rw [hR7] at h1; exact h1.right
  have B9 : Hid (Byts R9) := by have h1 := B8.out; rw [hR8] at h1; exact h1.right
  have E1 : Hid _ := hR1
  have E2 : Hid _ := hR2
  have E3 : Hid _ := hR3
  have E4 : Hid _ := hR4
  have E5 : Hid _ := hR5
  have E6 : Hid _ := hR6
  have E7 : Hid _ := hR7
  have E8 : Hid _ := hR8
  have E9 : Hid _ := hR9
  have HL : Hid (IsR w g vr ([kind % 256] ++ R1) 0 ∧ Byts ([kind % 256] ++ R1) ∧ Nam w ∧ 1 < g ∧ nms l0 l1 kind = N) := ⟨h, hb, hn, hg, hN⟩
  clear h hb hn hg hN eb hR1 hR2 hR3 hR4 hR5 hR6 hR7 hR8 hR9 hbd hgf
  have hmf : ∀ (fn : Fn) (first cap : Array Value) (w : World), (Instr.makeFunc fn first cap).run Tryz.prog w = .ok (.func fn first cap) w := fun _ _ _ _ => rfl
  go_enter Tryz.func140, Tryz.ntmps140
  go_wp2_with fail
  have HR0 : Hid (IsR ((w.alloc (.cells #[.int .i8 l0, .int .u16 l1] 153)).alloc (.cells #[.int .i8 0, .string ⟨#[]⟩, .slice none 0 0, .slice none 0 0, .int .i32 0, .bool false, .bool false, .int .i64 0, .int .i32 0, .slice none 0 0, .slice none 0 0] 35)) g vr ([kind % 256] ++ R1) 0) := HL.out.1.kept (((Kept.refl w (fun _ => False)).alloc _).alloc _) (fun h => h) (fun _ _ h => h)
  have hgl : g < w.heap.size := lt_of_block HL.out.1.1
  refine (gI8 kind HR0.out HL.out.2.1 HGF.out.k0 HGF.out.k1).mono ?_
  rintro _ w1 ⟨rfl, hr⟩
  obtain ⟨v1, hr1, hr2, hr3⟩ := hr
  have hvl : ∀ k, vr.ownBlock = some k → k < w.heap.size := HL.out.1.2.lt (by simp)
  have hvg : ∀ k, vr.ownBlock = some k → k ≠ g := fun k e e' => HL.out.1.apart (by simp) (e' ▸ e)
  have HG1 : Hid (GQ w (w1.alloc (.cells #[.int .i8 kind, .string ⟨#[]⟩, .slice none 0 0, .slice none 0 0, .int .i32 0, .bool false, .bool false, .int .i64 0, .int .i32 0, .slice none 0 0, .slice none 0 0] 35)) l0 l1 g vr v1 R1 w1.heap.size #[.int .i8 kind, .string ⟨#[]⟩, .slice none 0 0, .slice none 0 0, .int .i32 0, .bool false, .bool false, .int .i64 0, .int .i32 0, .slice none 0 0, .slice none 0 0]) := by
    have hs := hr3.size
    simp at hs
    have hl1 : w1.heap[w.heap.size]? = some (.cells #[.int .i8 l0, .int .u16 l1] 153 (0, 0)) := hr3.heap (by rw [Below.heap_alloc _ _ _ (by simp)]; exact heap_alloc_new _ _) (by omega)
    have ho1 : w1.heap[w.heap.size + 1]? = some (.cells #[.int .i8 0, .string ⟨#[]⟩, .slice none 0 0, .slice none 0 0, .int .i32 0, .bool false, .bool false, .int .i64 0, .int .i32 0, .slice none 0 0, .slice none 0 0] 35 (0, 0)) := hr3.heap (by have := heap_alloc_new (w.alloc (.cells #[.int .i8 l0, .int .u16 l1] 153)) (.cells #[.int .i8 0, .string ⟨#[]⟩, .slice none 0 0, .slice none 0 0, .int .i32 0, .bool false, .bool false, .int .i64 0, .int .i32 0, .slice none 0 0, .slice none 0 0] 35 (0, 0)); simpa using this) (by omega)
    have hkw : Kept w w1 (· = g) := (((Kept.refl w (· = g)).alloc _).alloc _).trans hr3 (fun _ _ h => h)
    have hka := (Kept.refl w1 (fun _ => False)).alloc (.cells #[.int .i8 kind, .string ⟨#[]⟩, .slice none 0 0, .slice none 0 0, .int .i32 0, .bool false, .bool false, .int .i64 0, .int .i32 0, .slice none 0 0, .slice none 0 0] 35)
    exact ⟨hr1.kept hka (fun h => h) (fun _ _ h => h), hr2, heap_alloc_new _ _, hka.heap hl1 (fun h => h), hka.heap ho1 (fun h => h), nam_kept (nam_kept HL.out.2.2.1 hkw (fun k hk e => by have := HL.out.2.2.2.1; omega)) hka (fun _ _ h => h), HL.out.2.2.2.1, by omega, hgl, fun k hk => ⟨hvl k hk, hvg k hk⟩, hkw.alloc _⟩
  clear hr1 hr2 hr3 HR0 hgl hvl hvg
  obtain ⟨d0, d1⟩ := HG1.out.l0'
  have c0 := HG1.out.cell 0
  simp at c0 d0 d1
  go_wp2_with fail
  refine (names_any l0 l1 kind _ HG1.out.nam hl0).mono ?_
  rintro _ w2 ⟨rfl, b2⟩
  rw [HL.out.2.2.2.2]
  obtain ⟨z, hz⟩ : ∃ z, z = w1.heap.size := ⟨_, rfl⟩
  rw [← hz] at HG1 ⊢
  have HG : Hid (GQ w w2 l0 l1 g vr v1 R1 z #[.int .i8 kind, .string ⟨#[]⟩, .slice none 0 0, .slice none 0 0, .int .i32 0, .bool false, .bool false, .int .i64 0, .int .i32 0, .slice none 0 0, .slice none 0 0]) := HG1.out.later b2
  have HS : Hid (SL w w2 z vr (.slice none 0 0) [] (.slice none 0 0) [] (.slice none 0 0) []) := ⟨sees_nil _, fun k e => by simp [Value.ownBlock] at e, SeesR.nil _ _, fun k e => by simp [Value.ownBlock] at e, SeesR.nil _ _, fun k e => by simp [Value.ownBlock] at e⟩
  have HST : Hid (w.heap.size + 1 < z ∧ g < w.heap.size ∧ ∀ k, vr.ownBlock = some k → k < w.heap.size ∧ k ≠ g) := ⟨HG.out.zlt, HG.out.glt, HG.out.vlt⟩
  clear b2 HG1 d0 d1 c0 HL hz
  obtain ⟨vx, evx⟩ : ∃ vx, vx = v1 := ⟨_, rfl⟩
  subst evx
  obtain ⟨wc, ewc⟩ : ∃ wc, wc = w2 := ⟨_, rfl⟩
  subst ewc
  go_upto_if 20 with fail
  clear m0
  go_cut [] from 7 to 85 (fun wx => ∃ vx, GQ w wx l0 l1 g vr vx R2 z #[.int .i8 kind, .string path, .slice none 0 0, .slice none 0 0, .int .i32 0, .bool false, .bool false, .int .i64 0, .int .i32 0, .slice none 0 0, .slice none 0 0] ∧ SL w wx z vr (.slice none 0 0) [] (.slice none 0 0) [] (.slice none 0 0) [])
  case first => as_aux_lemma =>
    cases p
    · have hE : R1 = R2 := by have h1 := E1.out; simpa using h1
      have hzz := z1 rfl
      go_wp2_with fail
      go_meet
      exact ⟨vx, by have h1 := HG.out; rw [hE] at h1; rw [hzz]; exact h1, HS.out⟩
    · have hE : R1 = txtB path ++ R2 := by have h1 := E1.out; simpa [List.append_assoc] using h1
      have HX := gText path 64 (v := vx) (rest := R2) (by have h1 := HG.out.r; rw [hE] at h1; exact h1) (by have h1 := B1.out; rw [hE] at h1; exact h1) (by have := HBD.out.1; omega) (by have := HBD.out.1; omega)
      clear hE
      go_wp2_with fail
      refine HX.mono ?_
      clear HX
      rintro _ w3 ⟨rfl, hr⟩
      obtain ⟨vy, hg3, hk3⟩ := HG.out.read hr
      have hs0 := HS.out.kept hk3 (fun k e => (HST.out.2.2 k e).2) (fun k h1 _ _ e => by have := HST.out.2.1; omega)
      have f1 := hg3.fr 1
      have c1 := hg3.cell 1
      simp at c1
      have HGn : Hid (GQ w (w3.setCell ⟨z, 1, none⟩ (.string path)) l0 l1 g vr vy R2 z #[.int .i8 kind, .string path, .slice none 0 0, .slice none 0 0, .int .i32 0, .bool false, .bool false, .int .i64 0, .int .i32 0, .slice none 0 0, .slice none 0 0]) := hg3.set 1 (.string path)
      have hkz : Kept w3 (w3.setCell ⟨z, 1, none⟩ (.string path)) (fun k => k = z) := (Kept.refl w3 (fun k => k = z)).setCell _ _ (fun _ => rfl)
      have hs1 := hs0
      have HSn : Hid (SL w (w3.setCell ⟨z, 1, none⟩ (.string path)) z vr (.slice none 0 0) [] (.slice none 0 0) [] (.slice none 0 0) []) := hs1.kept hkz (fun k e e' => by have h1 := HST.out.1; have h2 := (HST.out.2.2 k e).1; omega) (fun k _ h1 _ e => h1 e)
      clear hs0 hs1 hr hk3 hg3 hkz HG HS
      go_wp2_with fail
      go_meet
      exact ⟨vy, HGn.out, HSn.out⟩
  case rest => as_aux_lemma =>
    clear HG HS E1 B1
    obtain ⟨vx, hgx, hsx⟩ := hcut
    have HG : Hid (GQ w wc l0 l1 g vr vx R2 z #[.int .i8 kind, .string path, .slice none 0 0, .slice none 0 0, .int .i32 0, .bool false, .bool false, .int .i64 0, .int .i32 0, .slice none 0 0, .slice none 0 0]) := hgx
    have HS : Hid (SL w wc z vr (.slice none 0 0) [] (.slice none 0 0) [] (.slice none 0 0) []) := hsx
    clear hgx hsx
    go_upto_if 26 with fail
    clear m1
    go_cut [] from 7 to 85 (fun wx => ∃ vx dv, GQ w wx l0 l1 g vr vx R3 z #[.int .i8 kind, .string path, dv, .slice none 0 0, .int .i32 0, .bool false, .bool false, .int .i64 0, .int .i32 0, .slice none 0 0, .slice none 0 0] ∧ SL w wx z vr dv data (.slice none 0 0) [] (.slice none 0 0) [])
    case first => as_aux_lemma =>
      cases d
      · have hE : R2 = R3 := by have h1 := E2.out; simpa using h1
        have hzz := z2 rfl
        go_wp2_with fail
        go_meet
        exact ⟨vx, .slice none 0 0, by have h1 := HG.out; rw [hE] at h1; exact h1, by have h1 := HS.out; rw [hzz]; exact h1⟩
      · have hE : R2 = (be4 data.length ++ data) ++ R3 := by have h1 := E2.out; simpa [List.append_assoc] using h1
        have HX := getData_bk (v := vx) (rest := R3) data (by have h1 := HG.out.r; rw [hE] at h1; exact h1) (by have h1 := B2.out; rw [hE] at h1; exact h1) (by have := HBD.out.2.1; omega)
        clear hE
        go_wp2_with fail
        refine HX.mono ?_
        clear HX
        rintro _ w3 ⟨dv, rfl, hs3, hf3, hr⟩
        obtain ⟨vy, hg3, hk3⟩ := HG.out.read hr
        have hs0 := HS.out.kept hk3 (fun k e => (HST.out.2.2 k e).2) (fun k h1 _ _ e => by have := HST.out.2.1; omega)
        have f1 := hg3.fr 2
        have c1 := hg3.cell 2
        simp at c1
        obtain ⟨da, dn, dc, rfl⟩ := sees_shape hs3
        have HGn : Hid (GQ w (w3.setCell ⟨z, 2, none⟩ (.slice da dn dc)) l0 l1 g vr vy R3 z #[.int .i8 kind, .string path, .slice da dn dc, .slice none 0 0, .int .i32 0, .bool false, .bool false, .int .i64 0, .int .i32 0, .slice none 0 0, .slice none 0 0]) := hg3.set 2 (.slice da dn dc)
        have hkz : Kept w3 (w3.setCell ⟨z, 2, none⟩ (.slice da dn dc)) (fun k => k = z) := (Kept.refl w3 (fun k => k = z)).setCell _ _ (fun _ => rfl)
        have hs1 : SL w w3 z vr (.slice da dn dc) data (.slice none 0 0) [] (.slice none 0 0) [] := ⟨hs3, fun k e => HG.out.sub k (hf3 k e), hs0.ha, hs0.fa, hs0.hw, hs0.fw⟩
        have HSn : Hid (SL w (w3.setCell ⟨z, 2, none⟩ (.slice da dn dc)) z vr (.slice da dn dc) data (.slice none 0 0) [] (.slice none 0 0) []) := hs1.kept hkz (fun k e e' => by have h1 := HST.out.1; have h2 := (HST.out.2.2 k e).1; omega) (fun k _ h1 _ e => h1 e)
        clear hs0 hs1 hs3 hf3 hr hk3 hg3 hkz HG HS
        go_wp2_with fail
        go_meet
        exact ⟨vy, _, HGn.out, HSn.out⟩
    case rest => as_aux_lemma =>
      clear HG HS E2 B2
      obtain ⟨vx, dv, hgx, hsx⟩ := hcut
      have HG : Hid (GQ w wc l0 l1 g vr vx R3 z #[.int .i8 kind, .string path, dv, .slice none 0 0, .int .i32 0, .bool false, .bool false, .int .i64 0, .int .i32 0, .slice none 0 0, .slice none 0 0]) := hgx
      have HS : Hid (SL w wc z vr dv data (.slice none 0 0) [] (.slice none 0 0) []) := hsx
      clear hgx hsx
      go_upto_if 32 with fail
      clear m2
      go_cut [] from 7 to 85 (fun wx => ∃ vx av, GQ w wx l0 l1 g vr vx R4 z #[.int .i8 kind, .string path, dv, av, .int .i32 0, .bool false, .bool false, .int .i64 0, .int .i32 0, .slice none 0 0, .slice none 0 0] ∧ SL w wx z vr dv data av acl (.slice none 0 0) [])
      case first => as_aux_lemma =>
        cases a
        · have hE : R3 = R4 := by have h1 := E3.out; simpa using h1
          have hzz := z3 rfl
          go_wp2_with fail
          go_meet
          exact ⟨vx, .slice none 0 0, by have h1 := HG.out; rw [hE] at h1; exact h1, by have h1 := HS.out; rw [hzz]; exact h1⟩
        · have hE : R3 = (be4 acl.length ++ acB acl) ++ R4 := by have h1 := E3.out; simpa [List.append_assoc] using h1
          have HX := getListEntry_bk l0 l1 g vx acl R4 4 wc (by have h1 := HG.out.r; rw [hE] at h1; exact h1) (by have h1 := B3.out; rw [hE] at h1; exact h1) (by have := HBD.out.2.2.1; omega) (by have := HBD.out.2.2.1; omega) (fun x hx => ⟨⟨(HGF.out.ae x hx).1, (HGF.out.ae x hx).2.1⟩, HBD.out.2.2.2.1 x hx⟩)
          clear hE
          obtain ⟨y0, y1⟩ := HG.out.l0'
          go_wp2_with fail
          refine HX.mono ?_
          clear HX
          clear y0 y1
          rintro _ w3 ⟨av, rfl, hs3, hr⟩
          obtain ⟨vy, hg3, hk3⟩ := HG.out.read hr
          have hs0 := HS.out.kept hk3 (fun k e => (HST.out.2.2 k e).2) (fun k h1 _ _ e => by have := HST.out.2.1; omega)
          have f1 := hg3.fr 3
          have c1 := hg3.cell 3
          simp at c1
          have HGn : Hid (GQ w (w3.setCell ⟨z, 3, none⟩ (av)) l0 l1 g vr vy R4 z #[.int .i8 kind, .string path, dv, av, .int .i32 0, .bool false, .bool false, .int .i64 0, .int .i32 0, .slice none 0 0, .slice none 0 0]) := hg3.set 3 (av)
          have hkz : Kept w3 (w3.setCell ⟨z, 3, none⟩ (av)) (fun k => k = z) := (Kept.refl w3 (fun k => k = z)).setCell _ _ (fun _ => rfl)
          have hcc : wc.heap.size ≤ wc.heap.size := Nat.le_refl _
          have hs1 : SL w w3 z vr dv data av acl (.slice none 0 0) [] := ⟨hs0.hd, hs0.fd, seesR_own hs3 (fun c hc => by obtain ⟨x, _, rfl⟩ := List.mem_map.1 hc; rfl), fun k e => by have h1 := ownsRow_block hs3 k e; have h2 := lt_of_block HG.out.q; have h3 := lt_of_block HG.out.o; have h4 := HST.out.1; exact ⟨⟨by omega, by omega, by omega⟩, h1.2⟩, hs0.hw, hs0.fw⟩
          have hsv := seesR_shape hs1.ha
          have HSn : Hid (SL w (w3.setCell ⟨z, 3, none⟩ (av)) z vr dv data av acl (.slice none 0 0) []) := hs1.kept hkz (fun k e e' => by have h1 := HST.out.1; have h2 := (HST.out.2.2 k e).1; omega) (fun k _ h1 _ e => h1 e)
          obtain ⟨sa, sc, esv⟩ := hsv
          rw [List.length_map] at esv
          clear hs0 hs1 hs3 hr hk3 hg3 hkz HG HS
          subst esv
          go_wp2_with fail
          go_meet
          exact ⟨vy, _, HGn.out, HSn.out⟩
      case rest => as_aux_lemma =>
        clear HG HS E3 B3
        obtain ⟨vx, av, hgx, hsx⟩ := hcut
        have HG : Hid (GQ w wc l0 l1 g vr vx R4 z #[.int .i8 kind, .string path, dv, av, .int .i32 0, .bool false, .bool false, .int .i64 0, .int .i32 0, .slice none 0 0, .slice none 0 0]) := hgx
        have HS : Hid (SL w wc z vr dv data av acl (.slice none 0 0) []) := hsx
        clear hgx hsx
        go_upto_if 40 with fail
        clear m3
        go_cut [] from 7 to 85 (fun wx => ∃ vx, GQ w wx l0 l1 g vr vx R5 z #[.int .i8 kind, .string path, dv, av, .int .i32 ver, .bool false, .bool false, .int .i64 0, .int .i32 0, .slice none 0 0, .slice none 0 0] ∧ SL w wx z vr dv data av acl (.slice none 0 0) [])
        case first => as_aux_lemma =>
          cases v
          · have hE : R4 = R5 := by have h1 := E4.out; simpa using h1
            have hzz := z4 rfl
            go_wp2_with fail
            go_meet
            exact ⟨vx, by have h1 := HG.out; rw [hE] at h1; rw [hzz]; exact h1, HS.out⟩
          · have hE : R4 = be4 (up32 ver) ++ R5 := by have h1 := E4.out; simpa [List.append_assoc] using h1
            have HX := gI32 (v := vx) (rest := R5) ver (by have h1 := HG.out.r; rw [hE] at h1; exact h1) (by have h1 := B4.out; rw [hE] at h1; exact h1) HGF.out.v0 HGF.out.v1
            clear hE
            go_wp2_with fail
            refine HX.mono ?_
            clear HX
            rintro _ w3 ⟨rfl, hr⟩
            obtain ⟨vy, hg3, hk3⟩ := HG.out.read hr
            have hs0 := HS.out.kept hk3 (fun k e => (HST.out.2.2 k e).2) (fun k h1 _ _ e => by have := HST.out.2.1; omega)
            have f1 := hg3.fr 4
            have c1 := hg3.cell 4
            simp at c1
            have HGn : Hid (GQ w (w3.setCell ⟨z, 4, none⟩ (.int .i32 ver)) l0 l1 g vr vy R5 z #[.int .i8 kind, .string path, dv, av, .int .i32 ver, .bool false, .bool false, .int .i64 0, .int .i32 0, .slice none 0 0, .slice none 0 0]) := hg3.set 4 (.int .i32 ver)
            have hkz : Kept w3 (w3.setCell ⟨z, 4, none⟩ (.int .i32 ver)) (fun k => k = z) := (Kept.refl w3 (fun k => k = z)).setCell _ _ (fun _ => rfl)
            have hs1 := hs0
            have HSn : Hid (SL w (w3.setCell ⟨z, 4, none⟩ (.int .i32 ver)) z vr dv data av acl (.slice none 0 0) []) := hs1.kept hkz (fun k e e' => by have h1 := HST.out.1; have h2 := (HST.out.2.2 k e).1; omega) (fun k _ h1 _ e => h1 e)
            clear hs0 hs1 hr hk3 hg3 hkz HG HS
            go_wp2_with fail
            go_meet
            exact ⟨vy, HGn.out, HSn.out⟩
        case rest => as_aux_lemma =>
          clear HG HS E4 B4
          obtain ⟨vx, hgx, hsx⟩ := hcut
          have HG : Hid (GQ w wc l0 l1 g vr vx R5 z #[.int .i8 kind, .string path, dv, av, .int .i32 ver, .bool false, .bool false, .int .i64 0, .int .i32 0, .slice none 0 0, .slice none 0 0]) := hgx
          have HS : Hid (SL w wc z vr dv data av acl (.slice none 0 0) []) := hsx
          clear hgx hsx
          go_upto_if 46 with fail
          clear m4
          go_cut [] from 7 to 85 (fun wx => ∃ vx, GQ w wx l0 l1 g vr vx R6 z #[.int .i8 kind, .string path, dv, av, .int .i32 ver, .bool eph, .bool false, .int .i64 0, .int .i32 0, .slice none 0 0, .slice none 0 0] ∧ SL w wx z vr dv data av acl (.slice none 0 0) [])
          case first => as_aux_lemma =>
            cases e
            · have hE : R5 = R6 := by have h1 := E5.out; simpa using h1
              have hzz := (fun h => (z5 h).1) rfl
              go_wp2_with fail
              go_meet
              exact ⟨vx, by have h1 := HG.out; rw [hE] at h1; rw [hzz]; exact h1, HS.out⟩
            · have hE : R5 = [b2i eph] ++ R6 := by have h1 := E5.out; simpa [List.append_assoc] using h1
              have HX := gBool (v := vx) (rest := R6) eph (by have h1 := HG.out.r; rw [hE] at h1; exact h1) (by have h1 := B5.out; rw [hE] at h1; exact h1)
              clear hE
              go_wp2_with fail
              refine HX.mono ?_
              clear HX
              rintro _ w3 ⟨rfl, hr⟩
              obtain ⟨vy, hg3, hk3⟩ := HG.out.read hr
              have hs0 := HS.out.kept hk3 (fun k e => (HST.out.2.2 k e).2) (fun k h1 _ _ e => by have := HST.out.2.1; omega)
              have f1 := hg3.fr 5
              have c1 := hg3.cell 5
              simp at c1
              have HGn : Hid (GQ w (w3.setCell ⟨z, 5, none⟩ (.bool eph)) l0 l1 g vr vy R6 z #[.int .i8 kind, .string path, dv, av, .int .i32 ver, .bool eph, .bool false, .int .i64 0, .int .i32 0, .slice none 0 0, .slice none 0 0]) := hg3.set 5 (.bool eph)
              have hkz : Kept w3 (w3.setCell ⟨z, 5, none⟩ (.bool eph)) (fun k => k = z) := (Kept.refl w3 (fun k => k = z)).setCell _ _ (fun _ => rfl)
              have hs1 := hs0
              have HSn : Hid (SL w (w3.setCell ⟨z, 5, none⟩ (.bool eph)) z vr dv data av acl (.slice none 0 0) []) := hs1.kept hkz (fun k e e' => by have h1 := HST.out.1; have h2 := (HST.out.2.2 k e).1; omega) (fun k _ h1 _ e => h1 e)
              clear hs0 hs1 hr hk3 hg3 hkz HG HS
              go_wp2_with fail
              go_meet
              exact ⟨vy, HGn.out, HSn.out⟩
          case rest => as_aux_lemma =>
            clear HG HS E5 B5
            obtain ⟨vx, hgx, hsx⟩ := hcut
            have HG : Hid (GQ w wc l0 l1 g vr vx R6 z #[.int .i8 kind, .string path, dv, av, .int .i32 ver, .bool eph, .bool false, .int .i64 0, .int .i32 0, .slice none 0 0, .slice none 0 0]) := hgx
            have HS : Hid (SL w wc z vr dv data av acl (.slice none 0 0) []) := hsx
            clear hgx hsx
            go_upto_if 52 with fail
            clear m5
            go_cut [] from 7 to 85 (fun wx => ∃ vx, GQ w wx l0 l1 g vr vx R7 z #[.int .i8 kind, .string path, dv, av, .int .i32 ver, .bool eph, .bool seq, .int .i64 0, .int .i32 0, .slice none 0 0, .slice none 0 0] ∧ SL w wx z vr dv data av acl (.slice none 0 0) [])
            case first => as_aux_lemma =>
              cases e
              · have hE : R6 = R7 := by have h1 := E6.out; simpa using h1
                have hzz := (fun h => (z5 h).2) rfl
                go_wp2_with fail
                go_meet
                exact ⟨vx, by have h1 := HG.out; rw [hE] at h1; rw [hzz]; exact h1, HS.out⟩
              · have hE : R6 = [b2i seq] ++ R7 := by have h1 := E6.out; simpa [List.append_assoc] using h1
                have HX := gBool (v := vx) (rest := R7) seq (by have h1 := HG.out.r; rw [hE] at h1; exact h1) (by have h1 := B6.out; rw [hE] at h1; exact h1)
                clear hE
                go_wp2_with fail
                refine HX.mono ?_
                clear HX
                rintro _ w3 ⟨rfl, hr⟩
                obtain ⟨vy, hg3, hk3⟩ := HG.out.read hr
                have hs0 := HS.out.kept hk3 (fun k e => (HST.out.2.2 k e).2) (fun k h1 _ _ e => by have := HST.out.2.1; omega)
                have f1 := hg3.fr 6
                have c1 := hg3.cell 6
                simp at c1
                have HGn : Hid (GQ w (w3.setCell ⟨z, 6, none⟩ (.bool seq)) l0 l1 g vr vy R7 z #[.int .i8 kind, .string path, dv, av, .int .i32 ver, .bool eph, .bool seq, .int .i64 0, .int .i32 0, .slice none 0 0, .slice none 0 0]) := hg3.set 6 (.bool seq)
                have hkz : Kept w3 (w3.setCell ⟨z, 6, none⟩ (.bool seq)) (fun k => k = z) := (Kept.refl w3 (fun k => k = z)).setCell _ _ (fun _ => rfl)
                have hs1 := hs0
                have HSn : Hid (SL w (w3.setCell ⟨z, 6, none⟩ (.bool seq)) z vr dv data av acl (.slice none 0 0) []) := hs1.kept hkz (fun k e e' => by have h1 := HST.out.1; have h2 := (HST.out.2.2 k e).1; omega) (fun k _ h1 _ e => h1 e)
                clear hs0 hs1 hr hk3 hg3 hkz HG HS
                go_wp2_with fail
                go_meet
                exact ⟨vy, HGn.out, HSn.out⟩
            case rest => as_aux_lemma =>
              clear HG HS E6 B6
              obtain ⟨vx, hgx, hsx⟩ := hcut
              have HG : Hid (GQ w wc l0 l1 g vr vx R7 z #[.int .i8 kind, .string path, dv, av, .int .i32 ver, .bool eph, .bool seq, .int .i64 0, .int .i32 0, .slice none 0 0, .slice none 0 0]) := hgx
              have HS : Hid (SL w wc z vr dv data av acl (.slice none 0 0) []) := hsx
              clear hgx hsx
              go_upto_if 58 with fail
              clear m6
              go_cut [] from 7 to 85 (fun wx => ∃ vx, GQ w wx l0 l1 g vr vx R8 z #[.int .i8 kind, .string path, dv, av, .int .i32 ver, .bool eph, .bool seq, .int .i64 ses, .int .i32 0, .slice none 0 0, .slice none 0 0] ∧ SL w wx z vr dv data av acl (.slice none 0 0) [])
              case first => as_aux_lemma =>
                cases s
                · have hE : R7 = R8 := by have h1 := E7.out; simpa using h1
                  have hzz := z7 rfl
                  go_wp2_with fail
                  go_meet
                  exact ⟨vx, by have h1 := HG.out; rw [hE] at h1; rw [hzz]; exact h1, HS.out⟩
                · have hE : R7 = be8 (up64 ses) ++ R8 := by have h1 := E7.out; simpa [List.append_assoc] using h1
                  have HX := gI64 (v := vx) (rest := R8) ses (by have h1 := HG.out.r; rw [hE] at h1; exact h1) (by have h1 := B7.out; rw [hE] at h1; exact h1) HGF.out.s0 HGF.out.s1
                  clear hE
                  go_wp2_with fail
                  refine HX.mono ?_
                  clear HX
                  rintro _ w3 ⟨rfl, hr⟩
                  obtain ⟨vy, hg3, hk3⟩ := HG.out.read hr
                  have hs0 := HS.out.kept hk3 (fun k e => (HST.out.2.2 k e).2) (fun k h1 _ _ e => by have := HST.out.2.1; omega)
                  have f1 := hg3.fr 7
                  have c1 := hg3.cell 7
                  simp at c1
                  have HGn : Hid (GQ w (w3.setCell ⟨z, 7, none⟩ (.int .i64 ses)) l0 l1 g vr vy R8 z #[.int .i8 kind, .string path, dv, av, .int .i32 ver, .bool eph, .bool seq, .int .i64 ses, .int .i32 0, .slice none 0 0, .slice none 0 0]) := hg3.set 7 (.int .i64 ses)
                  have hkz : Kept w3 (w3.setCell ⟨z, 7, none⟩ (.int .i64 ses)) (fun k => k = z) := (Kept.refl w3 (fun k => k = z)).setCell _ _ (fun _ => rfl)
                  have hs1 := hs0
                  have HSn : Hid (SL w (w3.setCell ⟨z, 7, none⟩ (.int .i64 ses)) z vr dv data av acl (.slice none 0 0) []) := hs1.kept hkz (fun k e e' => by have h1 := HST.out.1; have h2 := (HST.out.2.2 k e).1; omega) (fun k _ h1 _ e => h1 e)
                  clear hs0 hs1 hr hk3 hg3 hkz HG HS
                  go_wp2_with fail
                  go_meet
                  exact ⟨vy, HGn.out, HSn.out⟩
              case rest => as_aux_lemma =>
                clear HG HS E7 B7
                obtain ⟨vx, hgx, hsx⟩ := hcut
                have HG : Hid (GQ w wc l0 l1 g vr vx R8 z #[.int .i8 kind, .string path, dv, av, .int .i32 ver, .bool eph, .bool seq, .int .i64 ses, .int .i32 0, .slice none 0 0, .slice none 0 0]) := hgx
                have HS : Hid (SL w wc z vr dv data av acl (.slice none 0 0) []) := hsx
                clear hgx hsx
                go_upto_if 64 with fail
                clear m7
                go_cut [] from 7 to 85 (fun wx => ∃ vx, GQ w wx l0 l1 g vr vx R9 z #[.int .i8 kind, .string path, dv, av, .int .i32 ver, .bool eph, .bool seq, .int .i64 ses, .int .i32 tmo, .slice none 0 0, .slice none 0 0] ∧ SL w wx z vr dv data av acl (.slice none 0 0) [])
                case first => as_aux_lemma =>
                  cases t
                  · have hE : R8 = R9 := by have h1 := E8.out; simpa using h1
                    have hzz := z8 rfl
                    go_wp2_with fail
                    go_meet
                    exact ⟨vx, by have h1 := HG.out; rw [hE] at h1; rw [hzz]; exact h1, HS.out⟩
                  · have hE : R8 = be4 (up32 tmo) ++ R9 := by have h1 := E8.out; simpa [List.append_assoc] using h1
                    have HX := gI32 (v := vx) (rest := R9) tmo (by have h1 := HG.out.r; rw [hE] at h1; exact h1) (by have h1 := B8.out; rw [hE] at h1; exact h1) HGF.out.t0 HGF.out.t1
                    clear hE
                    go_wp2_with fail
                    refine HX.mono ?_
                    clear HX
                    rintro _ w3 ⟨rfl, hr⟩
                    obtain ⟨vy, hg3, hk3⟩ := HG.out.read hr
                    have hs0 := HS.out.kept hk3 (fun k e => (HST.out.2.2 k e).2) (fun k h1 _ _ e => by have := HST.out.2.1; omega)
                    have f1 := hg3.fr 8
                    have c1 := hg3.cell 8
                    simp at c1
                    have HGn : Hid (GQ w (w3.setCell ⟨z, 8, none⟩ (.int .i32 tmo)) l0 l1 g vr vy R9 z #[.int .i8 kind, .string path, dv, av, .int .i32 ver, .bool eph, .bool seq, .int .i64 ses, .int .i32 tmo, .slice none 0 0, .slice none 0 0]) := hg3.set 8 (.int .i32 tmo)
                    have hkz : Kept w3 (w3.setCell ⟨z, 8, none⟩ (.int .i32 tmo)) (fun k => k = z) := (Kept.refl w3 (fun k => k = z)).setCell _ _ (fun _ => rfl)
                    have hs1 := hs0
                    have HSn : Hid (SL w (w3.setCell ⟨z, 8, none⟩ (.int .i32 tmo)) z vr dv data av acl (.slice none 0 0) []) := hs1.kept hkz (fun k e e' => by have h1 := HST.out.1; have h2 := (HST.out.2.2 k e).1; omega) (fun k _ h1 _ e => h1 e)
                    clear hs0 hs1 hr hk3 hg3 hkz HG HS
                    go_wp2_with fail
                    go_meet
                    exact ⟨vy, HGn.out, HSn.out⟩
                case rest => as_aux_lemma =>
                  clear HG HS E8 B8
                  obtain ⟨vx, hgx, hsx⟩ := hcut
                  have HG : Hid (GQ w wc l0 l1 g vr vx R9 z #[.int .i8 kind, .string path, dv, av, .int .i32 ver, .bool eph, .bool seq, .int .i64 ses, .int .i32 tmo, .slice none 0 0, .slice none 0 0]) := hgx
                  have HS : Hid (SL w wc z vr dv data av acl (.slice none 0 0) []) := hsx
                  clear hgx hsx
                  go_upto_if 70 with fail
                  clear m8
                  go_cut [] from 7 to 85 (fun wx => ∃ vx wv, GQ w wx l0 l1 g vr vx rest z #[.int .i8 kind, .string path, dv, av, .int .i32 ver, .bool eph, .bool seq, .int .i64 ses, .int .i32 tmo, wv, .slice none 0 0] ∧ SL w wx z vr dv data av acl wv who)
                  case first => as_aux_lemma =>
                    cases o
                    · have hE : R9 = rest := by have h1 := E9.out; simpa using h1
                      have hzz := z9 rfl
                      go_wp2_with fail
                      go_meet
                      exact ⟨vx, .slice none 0 0, by have h1 := HG.out; rw [hE] at h1; exact h1, by have h1 := HS.out; rw [hzz]; exact h1⟩
                    · have hE : R9 = (be4 who.length ++ idsB who) ++ rest := by have h1 := E9.out; simpa [List.append_assoc] using h1
                      have HX := getListId_bk l0 l1 g vx who rest 4 wc (by have h1 := HG.out.r; rw [hE] at h1; exact h1) (by have h1 := B9.out; rw [hE] at h1; exact h1) (by have := HBD.out.2.2.2.2.2.2.2.1; omega) (by have := HBD.out.2.2.2.2.2.2.2.1; omega) (fun x hx => HBD.out.2.2.2.2.2.2.2.2 x hx)
                      clear hE
                      obtain ⟨y0, y1⟩ := HG.out.l0'
                      go_wp2_with fail
                      refine HX.mono ?_
                      clear HX
                      clear y0 y1
                      rintro _ w3 ⟨wv, rfl, hs3, hr⟩
                      obtain ⟨vy, hg3, hk3⟩ := HG.out.read hr
                      have hs0 := HS.out.kept hk3 (fun k e => (HST.out.2.2 k e).2) (fun k h1 _ _ e => by have := HST.out.2.1; omega)
                      have f1 := hg3.fr 9
                      have c1 := hg3.cell 9
                      simp at c1
                      have HGn : Hid (GQ w (w3.setCell ⟨z, 9, none⟩ (wv)) l0 l1 g vr vy rest z #[.int .i8 kind, .string path, dv, av, .int .i32 ver, .bool eph, .bool seq, .int .i64 ses, .int .i32 tmo, wv, .slice none 0 0]) := hg3.set 9 (wv)
                      have hkz : Kept w3 (w3.setCell ⟨z, 9, none⟩ (wv)) (fun k => k = z) := (Kept.refl w3 (fun k => k = z)).setCell _ _ (fun _ => rfl)
                      have hs1 : SL w w3 z vr dv data av acl wv who := ⟨hs0.hd, hs0.fd, hs0.ha, hs0.fa, seesR_own hs3 (fun c hc => by obtain ⟨x, _, rfl⟩ := List.mem_map.1 hc; rfl), fun k e => by have h1 := ownsRow_block hs3 k e; have h2 := lt_of_block HG.out.q; have h3 := lt_of_block HG.out.o; have h4 := HST.out.1; exact ⟨⟨by omega, by omega, by omega⟩, h1.2⟩⟩
                      have hsv := seesR_shape hs1.hw
                      have HSn : Hid (SL w (w3.setCell ⟨z, 9, none⟩ (wv)) z vr dv data av acl wv who) := hs1.kept hkz (fun k e e' => by have h1 := HST.out.1; have h2 := (HST.out.2.2 k e).1; omega) (fun k _ h1 _ e => h1 e)
                      obtain ⟨sa, sc, esv⟩ := hsv
                      rw [List.length_map] at esv
                      clear hs0 hs1 hs3 hr hk3 hg3 hkz HG HS
                      subst esv
                      go_wp2_with fail
                      go_meet
                      exact ⟨vy, _, HGn.out, HSn.out⟩
                  case rest => as_aux_lemma =>
                    clear HG HS E9 B9
                    obtain ⟨vx, wv, hgx, hsx⟩ := hcut
                    have HG : Hid (GQ w wc l0 l1 g vr vx rest z #[.int .i8 kind, .string path, dv, av, .int .i32 ver, .bool eph, .bool seq, .int .i64 ses, .int .i32 tmo, wv, .slice none 0 0]) := hgx
                    have HS : Hid (SL w wc z vr dv data av acl wv who) := hsx
                    clear hgx hsx
                    obtain ⟨da, dn, dc, rfl⟩ := sees_shape HS.out.hd
                    obtain ⟨aa, al, ac, rfl⟩ := seesR_form HS.out.ha
                    obtain ⟨wa, wl, wcc, rfl⟩ := seesR_form HS.out.hw
                    have hld1 := HG.out.q
                    have hst1 := HG.out.o
                    have hrow := setRow_heap wc (w.heap.size + 1) _ #[.int .i8 kind, .string path, .slice da dn dc, .slice aa al ac, .int .i32 ver, .bool eph, .bool seq, .int .i64 ses, .int .i32 tmo, .slice wa wl wcc, .slice none 0 0] _ _ hst1
                    have hk : Kept wc (wc.setRow (w.heap.size + 1) #[.int .i8 kind, .string path, .slice da dn dc, .slice aa al ac, .int .i32 ver, .bool eph, .bool seq, .int .i64 ses, .int .i32 tmo, .slice wa wl wcc, .slice none 0 0]) (fun k => k = w.heap.size + 1) := ⟨rfl, rfl, rfl, by simp, fun k _ hn => setRow_other _ _ _ _ hn⟩
                    have HF : Hid _ := And.intro hrow hk
                    clear hrow hk
                    go_wp2_with (first | (refine wpList_load_row rfl 35 _ rfl z rfl 35 _ (0, 0) _ hld1 Tryz.underlying35 rfl rq_size ?_) | (refine wpList_store_row rfl 35 _ _ rfl (w.heap.size + 1) #[.int .i8 kind, .string path, .slice da dn dc, .slice aa al ac, .int .i32 ver, .bool eph, .bool seq, .int .i64 ses, .int .i32 tmo, .slice wa wl wcc, .slice none 0 0] rfl rfl 35 _ hst1 rq_size rfl (by simp [Value.oneCell']) ?_))
                    obtain ⟨hrow, hk⟩ := HF.out
                    have hg := HST.out.2.1
                    have hr' := HG.out.r.kept hk (by omega) (fun k hk' => by have := (HST.out.2.2 k (HG.out.sub k hk')).1; omega)
                    have hk' := HG.out.kept.trans hk (fun k hk e => by omega)
                    have hs' := HS.out.kept hk (fun k e e' => by have := (HST.out.2.2 k e).1; omega) (fun k _ _ h1 e => h1 e)
                    refine bodyPost_ret (v := .agg #[.int .i8 kind, .string path, .slice da dn dc, .slice aa al ac, .int .i32 ver, .bool eph, .bool seq, .int .i64 ses, .int .i32 tmo, .slice wa wl wcc, .slice none 0 0]) ?_ rfl ⟨_, _, _, rfl, hs'.hd, hs'.fd, hs'.ha, fun k e => ⟨(hs'.fa k e).1.1, (hs'.fa k e).2⟩, hs'.hw, fun k e => ⟨(hs'.fw k e).1.1, (hs'.fw k e).2⟩, ⟨vx, hr', HG.out.sub, hk'⟩⟩
                    exact results_cell_row Tryz.results140 _ _ (w.heap.size + 1) 35 _ (0, 0) _ rfl hrow Tryz.underlying35 rfl rq_size
end Go.Proofs.YtldcbabgommghaaGreatDoor
