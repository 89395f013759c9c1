/- What putId, and PutList of ids with it, put behind a Writer's bytes. -/
import Derived.Test.YtldcbabgommghaaGreatDoorLeafSumJ
import Derived.Test.YtldcbabgommghaaGreatDoorWriterAllJ
import Derived.Test.YtldcbabgommghaaGreatDoorChk2J
import Derived.Defers
import Derived.Recover
import Derived.Test.YtldcbabgommghaaGreatDoorChk5J
import Derived.Test.YtldcbabgommghaaGreatDoorChk6J
import Derived.Test.YtldcbabgommghaaGreatDoorReaderAllJ
import Derived.Test.YtldcbabgommghaaGreatDoorCopyTJ
namespace Go.Proofs.YtldcbabgommghaaGreatDoor
open Go.RowKit
set_option maxRecDepth 8000

/-- A text's bytes, its length ahead. -/
def txtB (s : ByteArray) : List Int := be4 (txt s).length ++ txt s
def idB (x : IdD) : List Int := txtB x.scheme ++ txtB x.name

theorem txtB_len (s : ByteArray) : (txtB s).length = 4 + s.size := by simp [txtB, be4, txt_len]; omega

theorem Puts.later {w w1 w2 : World} {g : Nat} {v : Value} {xs : List Int} (h : Puts w g v xs w1) (hb : Below w1.heap.size w1 w2) : Puts w g v xs w2 := by
  obtain ⟨v', h1, h2, h3⟩ := h
  refine ⟨v', h1.kept (Below.kept hb) ?_ ?_, h2, h3.trans (Below.kept hb) ?_⟩
  · have := lt_of_block h1.1; omega
  · intro k hk; have := (h1.2.lt k hk).2; omega
  · intro k hk h; have := h3.size; omega

/-- A cell that is no Writer's. -/
theorem Puts.cell {w w1 : World} {g : Nat} {v : Value} {xs : List Int} (h : Puts w g v xs w1) {p : Addr} {u : Value} (hc : w.cell? p = some u) (hg : p.block ≠ g) (hv : v.ownBlock ≠ some p.block) : w1.cell? p = some u := by
  obtain ⟨v', h1, h2, h3⟩ := h
  exact h3.cell hc (fun e => by
    rcases e with e | e
    · exact hg e
    · exact hv e)

theorem IsW.lt {w : World} {g : Nat} {v : Value} {xs : List Int} (h : IsW w g v xs) : g < w.heap.size ∧ ∀ k, v.ownBlock = some k → k < w.heap.size :=
  ⟨lt_of_block h.1, fun k hk => (h.2.lt k hk).2⟩

theorem Puts.nam {w w1 : World} {g : Nat} {v : Value} {xs : List Int} (h : Puts w g v xs w1) (hn : Nam w) (hg : 1 < g) (hv : ∀ k, v.ownBlock = some k → 1 < k) : Nam w1 := by
  obtain ⟨v', h1, h2, h3⟩ := h
  refine hn.below (B := 1 + 1) ⟨h3.os, h3.tape, h3.output, h3.size, fun k hk => h3.block k (by have := hn.lt; omega) (fun e => ?_)⟩ (by omega)
  rcases e with e | e
  · omega
  · have := hv k e; omega

set_option maxHeartbeats 400000 in
theorem putId_any (l : Value) (last wo : Int) (hl : l = lay last wo) (g : Nat) (v : Value) (xs : List Int) (x : IdD) (w : World) (h : IsW w g v xs) (h1 : x.scheme.size ≤ 2147483647) (h2 : x.name.size ≤ 2147483647) (hb : xs.length ≤ 70000000000000) :
    Calls Tryz.prog 151 #[l, .pointer (some ⟨g, 0, none⟩), .agg #[.string x.scheme, .string x.name]] w fun e w' => e = .returned (.tuple #[]) ∧ Puts w g v (xs ++ idB x) w' := by
  subst hl
  obtain ⟨scheme, name⟩ := x
  simp only at h1 h2 ⊢
  have hlt := h.lt
  have HV : Hid (IsW ((w.alloc (.cells #[.int .i8 last, .int .u16 wo] 153)).alloc (.cells #[.string scheme, .string name] 129)) g v xs) := (h.alloc _).alloc _
  have HL : Hid (g < w.heap.size ∧ ∀ k, v.ownBlock = some k → k < w.heap.size) := hlt
  clear h hlt
  go_enter Tryz.func151, Tryz.ntmps151
  go_wp2_with fail
  refine (wText_any g v xs scheme _ HV.out h1 (by omega)).mono ?_
  rintro e w1 ⟨rfl, hp⟩
  have c1 : w1.cell? ⟨w.heap.size + 1, 1, none⟩ = some (.string name) := hp.cell (by rw [cell_of_row _ _ _ _ _ _ (by have := heap_alloc_new (w.alloc (.cells #[.int .i8 last, .int .u16 wo] 153)) (.cells #[.string scheme, .string name] 129 (0, 0)); simpa using this)]; rfl) (by have := HL.out.1; show w.heap.size + 1 ≠ g; omega) (fun e => by have h := HL.out.2 _ e; have : w.heap.size + 1 < w.heap.size := h; omega)
  obtain ⟨v1, hW, hN, hK⟩ := hp
  have HW : Hid (IsW w1 g v1 (xs ++ (be4 (txt scheme).length ++ txt scheme)) ∧ NewRow _ v v1 ∧ Kept _ w1 (fun k => k = g ∨ v.ownBlock = some k)) := ⟨hW, hN, hK⟩
  clear hW hN hK
  go_wp2_with fail
  refine (wText_any g v1 _ name _ HW.out.1 h2 (by simp [be4, txt_len]; omega)).mono ?_
  rintro e w2 ⟨rfl, hp2⟩
  have HP : Hid (Puts w g v (xs ++ idB ⟨scheme, name⟩) w2) := by
    have := (Puts.next HW.out.2.1 HW.out.2.2 hp2).of_alloc.of_alloc
    rw [List.append_assoc] at this
    exact this
  clear hp2 HW c1
  go_wp2
  go_end0
  exact ⟨rfl, HP.out⟩

theorem putDefI (w : World) : CallsD Tryz.prog 170 #[] .returning w fun e u' w' => e = .returned (.tuple #[]) ∧ u' = .returning ∧ w' = w := by
  refine callsD_of_wpS Tryz.func170 rfl fun c₀ cs hu => ?_
  apply wpS_region
  simp [wpOpsS, go_sem, recoverD, hu, Tryz.ntmps170, bodyPostS, results, Tryz.results170]
  cases c₀
  simp_all

def idsB (l : List IdD) : List Int := l.flatMap idB
theorem idsB_next (l : List IdD) (k : Nat) (h : k < l.length) : idsB (l.take (k + 1)) = idsB (l.take k) ++ idB l[k] := by
  rw [List.take_succ_eq_append_getElem h]; simp only [idsB, List.flatMap_append, List.flatMap_cons, List.flatMap_nil, List.append_nil]

theorem idsB_len (l : List IdD) (h : ∀ x ∈ l, x.scheme.size ≤ 2147483647 ∧ x.name.size ≤ 2147483647) : (idsB l).length ≤ 4294967310 * l.length := by
  induction l with
  | nil => simp [idsB]
  | cons x l ih =>
    have e : idsB (x :: l) = idB x ++ idsB l := by simp [idsB]
    have h1 := h x (by simp)
    have h2 := ih (fun y hy => h y (by simp [hy]))
    rw [e, List.length_append, idB, List.length_append, txtB_len, txtB_len, List.length_cons]
    omega

set_option maxHeartbeats 1000000 in
theorem putListI_any (last wo : Int) (g : Nat) (v u : Value) (xs : List Int) (l : List IdD) (w : World) (h : IsW w g v xs) (hs : SeesR w u 2 (l.map IdD.cells)) (hr : l.length ≤ 4096) (hx : ∀ x ∈ l, x.scheme.size ≤ 2147483647 ∧ x.name.size ≤ 2147483647) (hb : xs.length ≤ 30000000000000) (hap : ∀ k, liveB u = some k → k ≠ g ∧ v.ownBlock ≠ some k ∧ k < w.heap.size) :
    Calls Tryz.prog 150 #[.pointer (some ⟨g, 0, none⟩), u, .func (.func 151) #[lay last wo] #[]] w fun e w' => e = .returned (.tuple #[]) ∧ Puts w g v (xs ++ (be4 l.length ++ idsB l)) w' := by
  have H : Hid (IsW w g v xs ∧ SeesR w u 2 (l.map IdD.cells)) := ⟨h, hs⟩
  have HL : Hid (g < w.heap.size ∧ ∀ k, v.ownBlock = some k → k < w.heap.size) := h.lt
  obtain ⟨ao, cap, rfl, hlc, hcm, h0, h3⟩ := hs
  rw [List.length_map] at hlc ⊢
  unfold maxLen at hcm
  clear h h3 h0
  have hfn : ∀ w, (binOp .eql 165 (.func (.func 151) #[lay last wo] #[]) .nilFunc).run Tryz.prog w = .ok (.bool false) w := fun _ => by kernel_rfl
  go_enter_defers Tryz.func150, Tryz.ntmps150
  go_wp2_with fail
  refine (wInt32_any g v xs l.length _ H.out.1 (by omega)).mono ?_
  rintro e w1 ⟨rfl, hp⟩
  rw [show up32 (l.length : Int) = l.length by unfold up32; omega] at hp
  have HP : Hid (Puts w g v (xs ++ be4 l.length) w1) := hp
  clear hp
  go_wp2
  go_loopw [7, 19] (fun _ i wr => ∃ k : Nat, k ≤ l.length ∧ i = .int .i64 k ∧ Puts w g v (xs ++ be4 l.length ++ idsB (l.take k)) wr) (fun _ i _ => l.length - (intOf i).toNat)
  case atStart => exact ⟨0, Nat.zero_le _, rfl, by simpa [idsB] using HP.out⟩
  case round =>
    clear HP
    obtain ⟨k, hk, rfl, hp⟩ := hrel
    have HP : Hid (Puts w g v (xs ++ be4 l.length ++ idsB (l.take k)) wr) := hp
    clear hp
    by_cases hlt : k < l.length
    · have hap' : ∀ k, liveB (Value.slice ao (l.map IdD.cells).length cap) = some k → k ≠ g ∧ v.ownBlock ≠ some k ∧ k < w.heap.size := hap
      obtain ⟨ao', cap', e, _, _, _, h3⟩ := H.out.2
      simp at e
      obtain ⟨rfl, rfl⟩ := e
      rcases h3 with h3 | ⟨b, off, rfl, h3⟩
      · have : l.length = 0 := by simpa using congrArg List.length h3
        omega
      · have hbk := hap' b (live_at (by rw [List.length_map]; omega))
        have c0 := HP.out.cell (h3 k (by simpa using hlt) 0 (by omega)) hbk.1 hbk.2.1
        have c1 := HP.out.cell (h3 k (by simpa using hlt) 1 (by omega)) hbk.1 hbk.2.1
        simp [IdD.cells] at c0 c1
        have HT : Hid (idsB (l.take (k + 1)) = idsB (l.take k) ++ idB l[k]) := idsB_next l k hlt
        have HX : Hid _ := hx l[k] (List.getElem_mem hlt)
        have HN : Hid ((idsB (l.take k)).length ≤ 4294967310 * (l.take k).length) := idsB_len (l.take k) (fun x hx' => hx x (List.mem_of_mem_take hx'))
        clear h3 hap hap' hx
        generalize l[k] = x at *
        go_wp2_with fail
        obtain ⟨vk, hW, hNw, hK⟩ := (HP.out.later (one_alloc wr _))
        refine (putId_any (lay last wo) last wo rfl g vk _ x _ hW HX.out.1 HX.out.2 (by have := HN.out; simp [be4] at this ⊢; omega)).mono ?_
        rintro e w2 ⟨rfl, hp2⟩
        have hp3 := Puts.next hNw hK hp2
        rw [List.append_assoc, ← HT.out] at hp3
        have HP2 : Hid (Puts w g v (xs ++ be4 l.length ++ idsB (l.take (k + 1))) w2) := hp3
        clear hp2 hp3 hW hNw hK
        go_wp2
        go_roundw
        case rel => exact ⟨k + 1, by omega, by go_num, HP2.out⟩
        case measure => simp [intOf]; omega
    · obtain rfl : k = l.length := by omega
      have hp := HP.out
      rw [List.take_length] at hp
      have HQ : Hid (Puts w g v (xs ++ (be4 l.length ++ idsB l)) wr) := by rw [← List.append_assoc]; exact hp
      clear hp HP
      go_wp2
      refine leaves_cons (f := 170) (args := #[]) (by simp) (by simp [go_sem]) ?_
      refine (putDefI _).mono ?_
      rintro e u' w'' ⟨rfl, rfl, rfl⟩
      exact ⟨_, results_none rfl _ _ _, rfl, HQ.out⟩

end Go.Proofs.YtldcbabgommghaaGreatDoor

/- What txn.Write answers of a transaction that may be, by what put lays of its request. -/
namespace Go.Proofs.YtldcbabgommghaaGreatDoor
open Go.RowKit
set_option maxRecDepth 8000

/-- The bytes ahead of a transaction's request. -/
def headB (e n sv bt nm : Int) : List Int := be4 e ++ be4 n ++ [sv % 256] ++ be4 bt ++ be8 (up64 nm)

set_option maxHeartbeats 4000000 in
theorem write_ok (e n sv bt nm k : Int) (s : ByteArray) (da aa wa oa : Option Addr) (dl dc al ac wl wc ol oc : Nat) (ver : Int) (eph seq : Bool) (ses tmo : Int) (E : List Int) (w : World) (h0 : 0 ≤ e) (h1 : e ≤ 4294967295) (h2 : 0 ≤ n) (h3 : n ≤ 4294967295) (h4 : 0 ≤ bt) (h5 : bt ≤ 4294967295) (hE : E.length ≤ 1000000000000)
    (hck : ∀ W : World, Below w.heap.size w W → Calls Tryz.prog 128 #[.agg #[.int .u32 e, .int .u32 n, .int .i8 sv, .int .u32 bt, .int .i64 nm, .int .i8 k, .string s, .slice da dl dc, .slice aa al ac, .int .i32 ver, .bool eph, .bool seq, .int .i64 ses, .int .i32 tmo, .slice wa wl wc, .slice oa ol oc]] W fun r W' => r = .returned (.int .i64 0) ∧ Below W.heap.size W W')
    (hpt : ∀ (W : World) (g : Nat) (v : Value) (xs : List Int), Below w.heap.size w W → IsW W g v xs → xs.length ≤ 1000 → w.heap.size ≤ g → (∀ j, v.ownBlock = some j → w.heap.size ≤ j) → Calls Tryz.prog 139 #[lay 8 0, .pointer (some ⟨g, 0, none⟩), .agg #[.int .i8 k, .string s, .slice da dl dc, .slice aa al ac, .int .i32 ver, .bool eph, .bool seq, .int .i64 ses, .int .i32 tmo, .slice wa wl wc, .slice oa ol oc]] W fun r W' => r = .returned (.tuple #[]) ∧ Puts W g v (xs ++ E) W') :
    Calls Tryz.prog 130 #[.agg #[.int .u32 e, .int .u32 n, .int .i8 sv, .int .u32 bt, .int .i64 nm, .int .i8 k, .string s, .slice da dl dc, .slice aa al ac, .int .i32 ver, .bool eph, .bool seq, .int .i64 ses, .int .i32 tmo, .slice wa wl wc, .slice oa ol oc]] w fun r w' => ∃ v, r = .returned (.tuple #[v, .int .i64 0]) ∧ Owns w' w.heap.size v (headB e n sv bt nm ++ E) ∧ Below w.heap.size w w' := by
  have HCK : Hid _ := hck
  have HPT : Hid _ := hpt
  obtain ⟨W0, eW⟩ : ∃ W0, W0 = w.alloc (.cells #[.int .u32 e, .int .u32 n, .int .i8 sv, .int .u32 bt, .int .i64 nm, .int .i8 k, .string s, .slice da dl dc, .slice aa al ac, .int .i32 ver, .bool eph, .bool seq, .int .i64 ses, .int .i32 tmo, .slice wa wl wc, .slice oa ol oc] 37) := ⟨_, rfl⟩
  have HE0 : Hid _ := eW
  have k0 : W0.cell? ⟨w.heap.size, 0, none⟩ = some (.int .u32 e) ∧ W0.cell? ⟨w.heap.size, 1, none⟩ = some (.int .u32 n) ∧ W0.cell? ⟨w.heap.size, 2, none⟩ = some (.int .i8 sv) ∧ W0.cell? ⟨w.heap.size, 3, none⟩ = some (.int .u32 bt) ∧ W0.cell? ⟨w.heap.size, 4, none⟩ = some (.int .i64 nm) ∧ W0.cell? ⟨w.heap.size, 5, none⟩ = some (.int .i8 k) ∧ W0.cell? ⟨w.heap.size, 6, none⟩ = some (.string s) ∧ W0.cell? ⟨w.heap.size, 7, none⟩ = some (.slice da dl dc) ∧ W0.cell? ⟨w.heap.size, 8, none⟩ = some (.slice aa al ac) ∧ W0.cell? ⟨w.heap.size, 9, none⟩ = some (.int .i32 ver) ∧ W0.cell? ⟨w.heap.size, 10, none⟩ = some (.bool eph) ∧ W0.cell? ⟨w.heap.size, 11, none⟩ = some (.bool seq) ∧ W0.cell? ⟨w.heap.size, 12, none⟩ = some (.int .i64 ses) ∧ W0.cell? ⟨w.heap.size, 13, none⟩ = some (.int .i32 tmo) ∧ W0.cell? ⟨w.heap.size, 14, none⟩ = some (.slice wa wl wc) ∧ W0.cell? ⟨w.heap.size, 15, none⟩ = some (.slice oa ol oc) := by
    subst eW
    refine ⟨?_, ?_, ?_, ?_, ?_, ?_, ?_, ?_, ?_, ?_, ?_, ?_, ?_, ?_, ?_, ?_⟩ <;> (rw [cell_of_row _ _ _ _ _ _ (heap_alloc_new _ _)]; rfl)
  have HB0 : Hid (Below w.heap.size w W0) := by subst eW; exact one_alloc _ _
  have HK0 : Hid _ := k0
  clear hck hpt eW k0
  go_enter Tryz.func130, Tryz.ntmps130
  go_wp2_with fail
  rw [← HE0.out]
  refine (HCK.out _ HB0.out).mono ?_
  rintro r w1 ⟨rfl, b1⟩
  have HB1 : Hid (Below w.heap.size w w1) := HB0.out.trans (b1.mono HB0.out.size)
  have HK1 : Hid _ := keep16 b1 HK0.out
  clear b1 HB0 HK0 HCK HE0
  obtain ⟨V, eV⟩ : ∃ V, V = w1.alloc (.cells #[.slice none 0 0] 73) := ⟨_, rfl⟩
  have HP0 : Hid (Puts V w1.heap.size (.slice none 0 0) [] V) := by
    subst eV
    exact ⟨_, ⟨heap_alloc_new _ _, World.ownsRow_nil _ _ _ _⟩, .inl rfl, Kept.refl _ _⟩
  have HC : Hid (∀ zs W, Puts V w1.heap.size (.slice none 0 0) zs W → W.cell? ⟨w.heap.size, 0, none⟩ = some (.int .u32 e) ∧ W.cell? ⟨w.heap.size, 1, none⟩ = some (.int .u32 n) ∧ W.cell? ⟨w.heap.size, 2, none⟩ = some (.int .i8 sv) ∧ W.cell? ⟨w.heap.size, 3, none⟩ = some (.int .u32 bt) ∧ W.cell? ⟨w.heap.size, 4, none⟩ = some (.int .i64 nm) ∧ W.cell? ⟨w.heap.size, 5, none⟩ = some (.int .i8 k) ∧ W.cell? ⟨w.heap.size, 6, none⟩ = some (.string s) ∧ W.cell? ⟨w.heap.size, 7, none⟩ = some (.slice da dl dc) ∧ W.cell? ⟨w.heap.size, 8, none⟩ = some (.slice aa al ac) ∧ W.cell? ⟨w.heap.size, 9, none⟩ = some (.int .i32 ver) ∧ W.cell? ⟨w.heap.size, 10, none⟩ = some (.bool eph) ∧ W.cell? ⟨w.heap.size, 11, none⟩ = some (.bool seq) ∧ W.cell? ⟨w.heap.size, 12, none⟩ = some (.int .i64 ses) ∧ W.cell? ⟨w.heap.size, 13, none⟩ = some (.int .i32 tmo) ∧ W.cell? ⟨w.heap.size, 14, none⟩ = some (.slice wa wl wc) ∧ W.cell? ⟨w.heap.size, 15, none⟩ = some (.slice oa ol oc)) := by
    intro zs W hp
    have hk : V.cell? ⟨w.heap.size, 0, none⟩ = some (.int .u32 e) ∧ V.cell? ⟨w.heap.size, 1, none⟩ = some (.int .u32 n) ∧ V.cell? ⟨w.heap.size, 2, none⟩ = some (.int .i8 sv) ∧ V.cell? ⟨w.heap.size, 3, none⟩ = some (.int .u32 bt) ∧ V.cell? ⟨w.heap.size, 4, none⟩ = some (.int .i64 nm) ∧ V.cell? ⟨w.heap.size, 5, none⟩ = some (.int .i8 k) ∧ V.cell? ⟨w.heap.size, 6, none⟩ = some (.string s) ∧ V.cell? ⟨w.heap.size, 7, none⟩ = some (.slice da dl dc) ∧ V.cell? ⟨w.heap.size, 8, none⟩ = some (.slice aa al ac) ∧ V.cell? ⟨w.heap.size, 9, none⟩ = some (.int .i32 ver) ∧ V.cell? ⟨w.heap.size, 10, none⟩ = some (.bool eph) ∧ V.cell? ⟨w.heap.size, 11, none⟩ = some (.bool seq) ∧ V.cell? ⟨w.heap.size, 12, none⟩ = some (.int .i64 ses) ∧ V.cell? ⟨w.heap.size, 13, none⟩ = some (.int .i32 tmo) ∧ V.cell? ⟨w.heap.size, 14, none⟩ = some (.slice wa wl wc) ∧ V.cell? ⟨w.heap.size, 15, none⟩ = some (.slice oa ol oc) := by subst eV; exact keep16 (one_alloc w1 _) HK1.out
    have hne : w.heap.size ≠ w1.heap.size := fun e => by
      have := World.block_lt_of_cell? w1 _ HK1.out.1
      have : w.heap.size < w1.heap.size := this
      omega
    have hz : ∀ {j : Nat} {u : Value}, V.cell? ⟨w.heap.size, j, none⟩ = some u → W.cell? ⟨w.heap.size, j, none⟩ = some u := fun hc => hp.cell hc hne (fun e => by simp [Value.ownBlock] at e)
    exact ⟨hz hk.1, hz hk.2.1, hz hk.2.2.1, hz hk.2.2.2.1, hz hk.2.2.2.2.1, hz hk.2.2.2.2.2.1, hz hk.2.2.2.2.2.2.1, hz hk.2.2.2.2.2.2.2.1, hz hk.2.2.2.2.2.2.2.2.1, hz hk.2.2.2.2.2.2.2.2.2.1, hz hk.2.2.2.2.2.2.2.2.2.2.1, hz hk.2.2.2.2.2.2.2.2.2.2.2.1, hz hk.2.2.2.2.2.2.2.2.2.2.2.2.1, hz hk.2.2.2.2.2.2.2.2.2.2.2.2.2.1, hz hk.2.2.2.2.2.2.2.2.2.2.2.2.2.2.1, hz hk.2.2.2.2.2.2.2.2.2.2.2.2.2.2.2⟩
  have HB : Hid (∀ zs W, Puts V w1.heap.size (.slice none 0 0) zs W → Below w.heap.size w W) := by
    intro zs W hp
    obtain ⟨v', q1, q2, q3⟩ := hp
    have hV : Below w.heap.size w V := by subst eV; exact HB1.out.alloc HB1.out.size _
    refine hV.trans (q3.below hV.size (fun j hj => ?_))
    rcases hj with hj | hj
    · have := HB1.out.size; omega
    · simp [Value.ownBlock] at hj
  have HR : Hid (∀ (v1 : Value) (j : Nat), NewRow V (.slice none 0 0) v1 → v1.ownBlock = some j → w.heap.size ≤ j) := by
    intro v1 j hn hj
    have hV : w1.heap.size ≤ V.heap.size := by subst eV; simp
    have := HB1.out.size
    rcases hn with hn | ⟨i, hn, hi⟩
    · rw [hn] at hj; simp [Value.ownBlock] at hj
    · rw [hn] at hj; simp at hj; omega
  have HE : Hid _ := eV
  clear eV
  obtain ⟨r0, r1, r2, r3, r4, r5, r6, r7, r8, r9, r10, r11, r12, r13, r14, r15⟩ := HC.out _ _ HP0.out
  rw [HE.out] at r0 r1 r2 r3 r4 r5 r6 r7 r8 r9 r10 r11 r12 r13 r14 r15
  go_wp2_with fail
  rw [← HE.out]
  clear r0 r1 r2 r3 r4 r5 r6 r7 r8 r9 r10 r11 r12 r13 r14 r15
  obtain ⟨v1, hW, hN, hK⟩ := HP0.out
  refine (wUint32_any w1.heap.size v1 _ e _ hW h0 (by omega) (by simp)).mono ?_
  rintro r w2 ⟨rfl, hp⟩
  have HP1 : Hid (Puts V w1.heap.size (.slice none 0 0) _ w2) := Puts.next hN hK hp
  clear hp hW hN hK HP0
  obtain ⟨r0, r1, r2, r3, r4, r5, r6, r7, r8, r9, r10, r11, r12, r13, r14, r15⟩ := HC.out _ _ HP1.out
  go_wp2_with fail
  obtain ⟨v1, hW, hN, hK⟩ := HP1.out
  refine (wUint32_any w1.heap.size v1 _ n _ hW h2 (by omega) (by simp [be4])).mono ?_
  rintro r w3 ⟨rfl, hp⟩
  have HP2 : Hid (Puts V w1.heap.size (.slice none 0 0) _ w3) := Puts.next hN hK hp
  clear hp hW hN hK HP1 r0 r1 r2 r3 r4 r5 r6 r7 r8 r9 r10 r11 r12 r13 r14 r15
  obtain ⟨r0, r1, r2, r3, r4, r5, r6, r7, r8, r9, r10, r11, r12, r13, r14, r15⟩ := HC.out _ _ HP2.out
  go_wp2_with fail
  obtain ⟨v1, hW, hN, hK⟩ := HP2.out
  refine (wInt8_any w1.heap.size v1 _ sv _ hW (by simp [be4])).mono ?_
  rintro r w4 ⟨rfl, hp⟩
  have HP3 : Hid (Puts V w1.heap.size (.slice none 0 0) _ w4) := Puts.next hN hK hp
  clear hp hW hN hK HP2 r0 r1 r2 r3 r4 r5 r6 r7 r8 r9 r10 r11 r12 r13 r14 r15
  obtain ⟨r0, r1, r2, r3, r4, r5, r6, r7, r8, r9, r10, r11, r12, r13, r14, r15⟩ := HC.out _ _ HP3.out
  go_wp2_with fail
  obtain ⟨v1, hW, hN, hK⟩ := HP3.out
  refine (wUint32_any w1.heap.size v1 _ bt _ hW h4 (by omega) (by simp [be4])).mono ?_
  rintro r w5 ⟨rfl, hp⟩
  have HP4 : Hid (Puts V w1.heap.size (.slice none 0 0) _ w5) := Puts.next hN hK hp
  clear hp hW hN hK HP3 r0 r1 r2 r3 r4 r5 r6 r7 r8 r9 r10 r11 r12 r13 r14 r15
  obtain ⟨r0, r1, r2, r3, r4, r5, r6, r7, r8, r9, r10, r11, r12, r13, r14, r15⟩ := HC.out _ _ HP4.out
  go_wp2_with fail
  obtain ⟨v1, hW, hN, hK⟩ := HP4.out
  refine (wInt64_any w1.heap.size v1 _ nm _ hW (by simp [be4])).mono ?_
  rintro r w6 ⟨rfl, hp⟩
  have HP5 : Hid (Puts V w1.heap.size (.slice none 0 0) _ w6) := Puts.next hN hK hp
  clear hp hW hN hK HP4 r0 r1 r2 r3 r4 r5 r6 r7 r8 r9 r10 r11 r12 r13 r14 r15
  obtain ⟨r0, r1, r2, r3, r4, r5, r6, r7, r8, r9, r10, r11, r12, r13, r14, r15⟩ := HC.out _ _ HP5.out
  go_wp2_with fail
  have HP6 : Hid (Puts V w1.heap.size (.slice none 0 0) (headB e n sv bt nm) w6.drew) := HP5.out.later (below_drewN (Below.refl _ _) 1)
  have k6 := HC.out _ _ HP6.out
  clear HP5 r0 r1 r2 r3 r4 r5 r6 r7 r8 r9 r10 r11 r12 r13 r14 r15
  go_region_held (fun w' => w'.cell? ⟨w.heap.size, 0, none⟩ = some (.int .u32 e) ∧ w'.cell? ⟨w.heap.size, 1, none⟩ = some (.int .u32 n) ∧ w'.cell? ⟨w.heap.size, 2, none⟩ = some (.int .i8 sv) ∧ w'.cell? ⟨w.heap.size, 3, none⟩ = some (.int .u32 bt) ∧ w'.cell? ⟨w.heap.size, 4, none⟩ = some (.int .i64 nm) ∧ w'.cell? ⟨w.heap.size, 5, none⟩ = some (.int .i8 k) ∧ w'.cell? ⟨w.heap.size, 6, none⟩ = some (.string s) ∧ w'.cell? ⟨w.heap.size, 7, none⟩ = some (.slice da dl dc) ∧ w'.cell? ⟨w.heap.size, 8, none⟩ = some (.slice aa al ac) ∧ w'.cell? ⟨w.heap.size, 9, none⟩ = some (.int .i32 ver) ∧ w'.cell? ⟨w.heap.size, 10, none⟩ = some (.bool eph) ∧ w'.cell? ⟨w.heap.size, 11, none⟩ = some (.bool seq) ∧ w'.cell? ⟨w.heap.size, 12, none⟩ = some (.int .i64 ses) ∧ w'.cell? ⟨w.heap.size, 13, none⟩ = some (.int .i32 tmo) ∧ w'.cell? ⟨w.heap.size, 14, none⟩ = some (.slice wa wl wc) ∧ w'.cell? ⟨w.heap.size, 15, none⟩ = some (.slice oa ol oc)) (first | exact k6 | exact k7 | exact k8)
    (first
    | (go_at_call 137; refine (proposed_any _).mono ?_; rintro r w7 ⟨rfl, b7⟩; have HP7 : Hid (Puts V w1.heap.size (.slice none 0 0) (headB e n sv bt nm) w7) := HP6.out.later b7; have k7 := HC.out _ _ HP7.out; clear b7 HP6 k6)
    | (go_at_call 139; obtain ⟨v1, hW, hN, hK⟩ := HP7.out; refine (HPT.out _ w1.heap.size v1 _ (HB.out _ _ HP7.out) hW ?_ ?_ ?_).mono ?_; (simp [headB, be4, be8]); (exact HB1.out.size); (exact fun j hj => HR.out _ j hN hj); rintro r w8 ⟨rfl, hp⟩; have HP8 : Hid (Puts V w1.heap.size (.slice none 0 0) (headB e n sv bt nm ++ E) w8) := Puts.next hN hK hp; have k8 := HC.out _ _ HP8.out; clear hp hW hN hK HP7 k7))
  go_wp2_with fail
  obtain ⟨v1, hW, hN, hK⟩ := HP8.out
  refine (wBytes_any w1.heap.size v1 _ _ hW (by simp [headB, be4, be8]; omega)).mono ?_
  rintro r w9 ⟨vr, rfl, ho, b9⟩
  have h8 := HB.out _ _ HP8.out
  have HF : Hid (Owns w9 w.heap.size vr (headB e n sv bt nm ++ E) ∧ Below w.heap.size w w9) := ⟨owns_mono ho h8.size, h8.trans (b9.mono h8.size)⟩
  clear hW hN hK HP8 k8 b9 h8 ho
  go_wp2
  go_ret2
  exact ⟨_, rfl, HF.out⟩
end Go.Proofs.YtldcbabgommghaaGreatDoor

/- What put of package txn lays of a Delete without ids. -/
namespace Go.Proofs.YtldcbabgommghaaGreatDoor
open Go.RowKit
set_option maxRecDepth 8000

end Go.Proofs.YtldcbabgommghaaGreatDoor

/- What txn.Check and txn.Write answer of the transaction that the statements' own first look makes. -/
namespace Go.Proofs.YtldcbabgommghaaGreatDoor
open Go.RowKit
set_option maxRecDepth 8000

end Go.Proofs.YtldcbabgommghaaGreatDoor

/- What get of package txn reads of a Delete without ids. -/
namespace Go.Proofs.YtldcbabgommghaaGreatDoor
open Go.RowKit
set_option maxRecDepth 8000

theorem Nam.kept {w w' : World} {S : Nat → Prop} (h : Nam w) (hk : Kept w w' S) (hn : ∀ k, k ≤ 1 → ¬ S k) : Nam w' :=
  h.below (B := 1 + 1) ⟨hk.os, hk.tape, hk.output, hk.size, fun k hk' => hk.block k (by have := h.lt; omega) (hn k (by omega))⟩ (by omega)

end Go.Proofs.YtldcbabgommghaaGreatDoor

/- What txn.Read answers of the bytes of the transaction that the statements' own first look makes. -/
namespace Go.Proofs.YtldcbabgommghaaGreatDoor
open Go.RowKit
set_option maxRecDepth 8000

/-- What stands while a transaction is read: the Reader at g, the transaction at t, the result's variable. -/
structure RDs (w W : World) (g : Nat) (v : Value) (xs : List Int) (t : Nat) (cs : Array Value) : Prop where
  r : IsR W g v xs 0
  q : W.heap[t]? = some (.cells cs 37 (0, 0))
  o : W.heap[w.heap.size]? = some (.cells #[.int .u32 0, .int .u32 0, .int .i8 0, .int .u32 0, .int .i64 0, .int .i8 0, .string ⟨#[]⟩, .slice none 0 0, .slice none 0 0, .int .i32 0, .bool false, .bool false, .int .i64 0, .int .i32 0, .slice none 0 0, .slice none 0 0] 37 (0, 0))
  nam : Nam W
  ng : 1 < w.heap.size
  gl : w.heap.size < g
  gt : g < t
  vlt : xs ≠ [] → ∀ k, v.ownBlock = some k → w.heap.size < k ∧ k < t
  bel : Below w.heap.size w W

theorem isR_keep {w w' : World} {S : Nat → Prop} {g : Nat} {v : Value} {xs : List Int} {f : Int} (h : IsR w g v xs f) (hk : Kept w w' S) (hg : ¬ S g) (hn : xs ≠ [] → ∀ k, v.ownBlock = some k → ¬ S k) : IsR w' g v xs f := by
  refine ⟨hk.heap h.1 hg, ?_⟩
  by_cases hx : xs = []
  · obtain ⟨ao, cap, rfl, h1, h2, h0, h3⟩ := h.2
    exact ⟨ao, cap, rfl, h1, h2, h0, .inl hx⟩
  · exact h.2.kept hk (hn hx)

section
variable {w W W' : World} {g : Nat} {v : Value} {xs ys : List Int} {t : Nat} {cs : Array Value}

theorem RDs.read {n : Int} (h : RDs w W g v xs t cs) (hx : xs ≠ []) (hr : ReadsTo W g v ⟨n, ys, 0⟩ W') : ∃ v', RDs w W' g v' ys t cs := by
  obtain ⟨v', h1, h2, h3⟩ := hr
  have a := h.gl
  have b := h.gt
  exact ⟨v', h1, h3.heap h.q (by omega), h3.heap h.o (by omega), h.nam.kept h3 (fun k hk e => by have := h.ng; omega), h.ng, h.gl, h.gt, fun _ k hk => h.vlt hx k (h2 k hk), h.bel.trans (h3.below h.bel.size (fun k e => by omega))⟩

theorem RDs.got (h : RDs w W g v xs t cs) (hr : (∃ v', IsR W' g v' [] 0) ∧ Kept W W' (· = g)) : ∃ v', RDs w W' g v' [] t cs := by
  obtain ⟨⟨v', h1⟩, h3⟩ := hr
  have a := h.gl
  have b := h.gt
  exact ⟨v', h1, h3.heap h.q (by omega), h3.heap h.o (by omega), h.nam.kept h3 (fun k hk e => by have := h.ng; omega), h.ng, h.gl, h.gt, fun hx => absurd rfl hx, h.bel.trans (h3.below h.bel.size (fun k e => by omega))⟩

theorem RDs.later (h : RDs w W g v xs t cs) (hb : Below W.heap.size W W') : RDs w W' g v xs t cs := by
  have hk := Below.kept hb
  have hs := h.bel.size
  have a := h.gl
  have b := h.gt
  have c := lt_of_block h.q
  exact ⟨isR_keep h.r hk (by omega) (fun hx k hk' => by have := h.vlt hx k hk'; omega), hk.heap h.q (by omega), hk.heap h.o (by omega), h.nam.below hb h.nam.lt, h.ng, h.gl, h.gt, h.vlt, h.bel.trans (hb.mono hs)⟩

theorem RDs.set (h : RDs w W g v xs t cs) (j : Nat) (u : Value) : RDs w (W.setCell ⟨t, j, none⟩ u) g v xs t (cs.setIfInBounds j u) := by
  have a := h.gl
  have b := h.gt
  have hk : Kept W (W.setCell ⟨t, j, none⟩ u) (fun k => k = t) := (Kept.refl W (fun k => k = t)).setCell _ _ (fun _ => rfl)
  refine ⟨isR_keep h.r hk (by omega) (fun hx k hk' => by have := h.vlt hx k hk'; omega), ?_, hk.heap h.o (by omega), h.nam.kept hk (fun k hk' e => by have := h.ng; omega), h.ng, h.gl, h.gt, h.vlt, h.bel.trans (hk.below h.bel.size (fun k e => by omega))⟩
  rw [heap_setCell_same W t j _ _ _ h.q]

theorem RDs.cell (h : RDs w W g v xs t cs) (j : Nat) : W.cell? ⟨t, j, none⟩ = cs[j]? := by
  rw [cell_of_row W t j _ _ _ h.q]
theorem RDs.fr (h : RDs w W g v xs t cs) (j : Nat) : W.frozen? ⟨t, j, none⟩ = false := frozen_of_row W t j _ _ h.q
end

end Go.Proofs.YtldcbabgommghaaGreatDoor
