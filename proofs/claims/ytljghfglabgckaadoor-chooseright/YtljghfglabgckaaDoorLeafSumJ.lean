/- What putId, and PutList of ids with it, put behind a Writer's bytes. -/
import Derived.Test.YtljghfglabgckaaDoorRqJ
import Derived.Test.YtljghfglabgckaaDoorZxJ
import Derived.Test.YtljghfglabgckaaDoorChkJ
import Derived.Defers
import Derived.Recover
import Derived.Test.YtljghfglabgckaaDoorProg
import Derived.Test.YtljghfglabgckaaDoorBaseJ
namespace Go.Proofs.YtljghfglabgckaaDoor
open Go.RowKit
set_option maxRecDepth 8000

/-- A text's bytes, its length ahead. -/
def txtB (s : ByteArray) : List Int := be4 (txt s).length ++ txt s
def idB (x : IdD) : List Int := txtB x.scheme ++ txtB x.name

theorem txtB_len (s : ByteArray) : (txtB s).length = 4 + s.size := by simp [txtB, be4, txt_len]; omega

theorem Puts.later {w w1 w2 : World} {g : Nat} {v : Value} {xs : List Int} (h : Puts w g v xs w1) (hb : Below w1.heap.size w1 w2) : Puts w g v xs w2 := by
  obtain ⟨v', h1, h2, h3⟩ := h
  refine ⟨v', h1.kept (Below.kept hb) ?_ ?_, h2, h3.trans (Below.kept hb) ?_⟩
  · have := lt_of_block h1.1; omega
  · intro k hk; have := (h1.2.lt k hk).2; omega
  · intro k hk h; have := h3.size; omega

/-- A cell that is no Writer's. -/
theorem Puts.cell {w w1 : World} {g : Nat} {v : Value} {xs : List Int} (h : Puts w g v xs w1) {p : Addr} {u : Value} (hc : w.cell? p = some u) (hg : p.block ≠ g) (hv : v.ownBlock ≠ some p.block) : w1.cell? p = some u := by
  obtain ⟨v', h1, h2, h3⟩ := h
  exact h3.cell hc (fun e => by
    rcases e with e | e
    · exact hg e
    · exact hv e)

theorem Puts.size {w w1 : World} {g : Nat} {v : Value} {xs : List Int} (h : Puts w g v xs w1) : w.heap.size ≤ w1.heap.size := by
  obtain ⟨v', h1, h2, h3⟩ := h
  exact h3.size

theorem IsW.lt {w : World} {g : Nat} {v : Value} {xs : List Int} (h : IsW w g v xs) : g < w.heap.size ∧ ∀ k, v.ownBlock = some k → k < w.heap.size :=
  ⟨lt_of_block h.1, fun k hk => (h.2.lt k hk).2⟩

theorem Puts.nam {w w1 : World} {g : Nat} {v : Value} {xs : List Int} (h : Puts w g v xs w1) (hn : Nam w) (hg : 0 < g) (hv : ∀ k, v.ownBlock = some k → 0 < k) : Nam w1 := by
  obtain ⟨v', h1, h2, h3⟩ := h
  refine hn.below (B := 0 + 1) ⟨h3.os, h3.tape, h3.output, h3.size, fun k hk => h3.block k (by have := hn.lt; omega) (fun e => ?_)⟩ (by omega)
  rcases e with e | e
  · omega
  · have := hv k e; omega

set_option maxHeartbeats 400000 in
theorem putId_any (l : Value) (last wo : Int) (hl : l = lay last wo) (g : Nat) (v : Value) (xs : List Int) (x : IdD) (w : World) (h : IsW w g v xs) (h1 : x.scheme.size ≤ 2147483647) (h2 : x.name.size ≤ 2147483647) (hb : xs.length ≤ 70000000000000) :
    Calls Tryd.prog 57 #[l, .pointer (some ⟨g, 0, none⟩), .agg #[.string x.scheme, .string x.name]] w fun e w' => e = .returned (.tuple #[]) ∧ Puts w g v (xs ++ idB x) w' := by
  subst hl
  obtain ⟨scheme, name⟩ := x
  simp only at h1 h2 ⊢
  have hlt := h.lt
  have HV : Hid (IsW ((w.alloc (.cells #[.int .i8 last, .int .u16 wo] 79)).alloc (.cells #[.string scheme, .string name] 101)) g v xs) := (h.alloc _).alloc _
  have HL : Hid (g < w.heap.size ∧ ∀ k, v.ownBlock = some k → k < w.heap.size) := hlt
  clear h hlt
  go_enter Tryd.func57, Tryd.ntmps57
  go_wp2_with fail
  refine (wText_any g v xs scheme _ HV.out h1 (by omega)).mono ?_
  rintro e w1 ⟨rfl, hp⟩
  have c1 : w1.cell? ⟨w.heap.size + 1, 1, none⟩ = some (.string name) := hp.cell (by rw [cell_of_row _ _ _ _ _ _ (by have := heap_alloc_new (w.alloc (.cells #[.int .i8 last, .int .u16 wo] 79)) (.cells #[.string scheme, .string name] 101 (0, 0)); simpa using this)]; rfl) (by have := HL.out.1; show w.heap.size + 1 ≠ g; omega) (fun e => by have h := HL.out.2 _ e; have : w.heap.size + 1 < w.heap.size := h; omega)
  obtain ⟨v1, hW, hN, hK⟩ := hp
  have HW : Hid (IsW w1 g v1 (xs ++ (be4 (txt scheme).length ++ txt scheme)) ∧ NewRow _ v v1 ∧ Kept _ w1 (fun k => k = g ∨ v.ownBlock = some k)) := ⟨hW, hN, hK⟩
  clear hW hN hK
  go_wp2_with fail
  refine (wText_any g v1 _ name _ HW.out.1 h2 (by simp [be4, txt_len]; omega)).mono ?_
  rintro e w2 ⟨rfl, hp2⟩
  have HP : Hid (Puts w g v (xs ++ idB ⟨scheme, name⟩) w2) := by
    have := (Puts.next HW.out.2.1 HW.out.2.2 hp2).of_alloc.of_alloc
    rw [List.append_assoc] at this
    exact this
  clear hp2 HW c1
  go_wp2
  go_end0
  exact ⟨rfl, HP.out⟩

theorem putDefI (w : World) : CallsD Tryd.prog 67 #[] .returning w fun e u' w' => e = .returned (.tuple #[]) ∧ u' = .returning ∧ w' = w := by
  refine callsD_of_wpS Tryd.func67 rfl fun c₀ cs hu => ?_
  apply wpS_region
  simp [wpOpsS, go_sem, recoverD, hu, Tryd.ntmps67, bodyPostS, results, Tryd.results67]
  cases c₀
  simp_all

def idsB (l : List IdD) : List Int := l.flatMap idB
theorem idsB_next (l : List IdD) (k : Nat) (h : k < l.length) : idsB (l.take (k + 1)) = idsB (l.take k) ++ idB l[k] := by
  rw [List.take_succ_eq_append_getElem h]; simp only [idsB, List.flatMap_append, List.flatMap_cons, List.flatMap_nil, List.append_nil]

theorem idsB_len (l : List IdD) (h : ∀ x ∈ l, x.scheme.size ≤ 2147483647 ∧ x.name.size ≤ 2147483647) : (idsB l).length ≤ 4294967310 * l.length := by
  induction l with
  | nil => simp [idsB]
  | cons x l ih =>
    have e : idsB (x :: l) = idB x ++ idsB l := by simp [idsB]
    have h1 := h x (by simp)
    have h2 := ih (fun y hy => h y (by simp [hy]))
    rw [e, List.length_append, idB, List.length_append, txtB_len, txtB_len, List.length_cons]
    omega

set_option maxHeartbeats 1000000 in
theorem putListI_any (last wo : Int) (g : Nat) (v u : Value) (xs : List Int) (l : List IdD) (w : World) (h : IsW w g v xs) (hs : SeesR w u 2 (l.map IdD.cells)) (hr : l.length ≤ 4096) (hx : ∀ x ∈ l, x.scheme.size ≤ 2147483647 ∧ x.name.size ≤ 2147483647) (hb : xs.length ≤ 30000000000000) (hap : ∀ k, liveB u = some k → k ≠ g ∧ v.ownBlock ≠ some k ∧ k < w.heap.size) :
    Calls Tryd.prog 56 #[.pointer (some ⟨g, 0, none⟩), u, .func (.func 57) #[lay last wo] #[]] w fun e w' => e = .returned (.tuple #[]) ∧ Puts w g v (xs ++ (be4 l.length ++ idsB l)) w' := by
  have H : Hid (IsW w g v xs ∧ SeesR w u 2 (l.map IdD.cells)) := ⟨h, hs⟩
  have HL : Hid (g < w.heap.size ∧ ∀ k, v.ownBlock = some k → k < w.heap.size) := h.lt
  obtain ⟨ao, cap, rfl, hlc, hcm, h0, h3⟩ := hs
  rw [List.length_map] at hlc ⊢
  unfold maxLen at hcm
  clear h h3 h0
  have hfn : ∀ w, (binOp .eql 108 (.func (.func 57) #[lay last wo] #[]) .nilFunc).run Tryd.prog w = .ok (.bool false) w := fun _ => by kernel_rfl
  go_enter_defers Tryd.func56, Tryd.ntmps56
  go_wp2_with fail
  refine (wInt32_any g v xs l.length _ H.out.1 (by omega)).mono ?_
  rintro e w1 ⟨rfl, hp⟩
  rw [show up32 (l.length : Int) = l.length by unfold up32; omega] at hp
  have HP : Hid (Puts w g v (xs ++ be4 l.length) w1) := hp
  clear hp
  go_wp2
  go_loopw [7, 19] (fun _ i wr => ∃ k : Nat, k ≤ l.length ∧ i = .int .i64 k ∧ Puts w g v (xs ++ be4 l.length ++ idsB (l.take k)) wr) (fun _ i _ => l.length - (intOf i).toNat)
  case atStart => exact ⟨0, Nat.zero_le _, rfl, by simpa [idsB] using HP.out⟩
  case round =>
    clear HP
    obtain ⟨k, hk, rfl, hp⟩ := hrel
    have HP : Hid (Puts w g v (xs ++ be4 l.length ++ idsB (l.take k)) wr) := hp
    clear hp
    by_cases hlt : k < l.length
    · have hap' : ∀ k, liveB (Value.slice ao (l.map IdD.cells).length cap) = some k → k ≠ g ∧ v.ownBlock ≠ some k ∧ k < w.heap.size := hap
      obtain ⟨ao', cap', e, _, _, _, h3⟩ := H.out.2
      simp at e
      obtain ⟨rfl, rfl⟩ := e
      rcases h3 with h3 | ⟨b, off, rfl, h3⟩
      · have : l.length = 0 := by simpa using congrArg List.length h3
        omega
      · have hbk := hap' b (live_at (by rw [List.length_map]; omega))
        have c0 := HP.out.cell (h3 k (by simpa using hlt) 0 (by omega)) hbk.1 hbk.2.1
        have c1 := HP.out.cell (h3 k (by simpa using hlt) 1 (by omega)) hbk.1 hbk.2.1
        simp [IdD.cells] at c0 c1
        have HT : Hid (idsB (l.take (k + 1)) = idsB (l.take k) ++ idB l[k]) := idsB_next l k hlt
        have HX : Hid _ := hx l[k] (List.getElem_mem hlt)
        have HN : Hid ((idsB (l.take k)).length ≤ 4294967310 * (l.take k).length) := idsB_len (l.take k) (fun x hx' => hx x (List.mem_of_mem_take hx'))
        clear h3 hap hap' hx
        generalize l[k] = x at *
        go_wp2_with fail
        obtain ⟨vk, hW, hNw, hK⟩ := (HP.out.later (one_alloc wr _))
        refine (putId_any (lay last wo) last wo rfl g vk _ x _ hW HX.out.1 HX.out.2 (by have := HN.out; simp [be4] at this ⊢; omega)).mono ?_
        rintro e w2 ⟨rfl, hp2⟩
        have hp3 := Puts.next hNw hK hp2
        rw [List.append_assoc, ← HT.out] at hp3
        have HP2 : Hid (Puts w g v (xs ++ be4 l.length ++ idsB (l.take (k + 1))) w2) := hp3
        clear hp2 hp3 hW hNw hK
        go_wp2
        go_roundw
        case rel => exact ⟨k + 1, by omega, by go_num, HP2.out⟩
        case measure => simp [intOf]; omega
    · obtain rfl : k = l.length := by omega
      have hp := HP.out
      rw [List.take_length] at hp
      have HQ : Hid (Puts w g v (xs ++ (be4 l.length ++ idsB l)) wr) := by rw [← List.append_assoc]; exact hp
      clear hp HP
      go_wp2
      refine leaves_cons (f := 67) (args := #[]) (by simp) (by simp [go_sem]) ?_
      refine (putDefI _).mono ?_
      rintro e u' w'' ⟨rfl, rfl, rfl⟩
      exact ⟨_, results_none rfl _ _ _, rfl, HQ.out⟩

end Go.Proofs.YtljghfglabgckaaDoor

/- What putEntry, and PutList of entries with it, put behind a Writer's bytes. -/
namespace Go.Proofs.YtljghfglabgckaaDoor
open Go.RowKit
set_option maxRecDepth 8000

def enB (x : EnD) : List Int := [x.perms % 256] ++ idB x.id

set_option maxHeartbeats 400000 in
theorem putEntry_any (last wo : Int) (g : Nat) (v : Value) (xs : List Int) (x : EnD) (w : World) (h : IsW w g v xs) (h1 : x.id.scheme.size ≤ 2147483647) (h2 : x.id.name.size ≤ 2147483647) (hb : xs.length ≤ 60000000000000) :
    Calls Tryd.prog 53 #[lay last wo, .pointer (some ⟨g, 0, none⟩), .agg #[.int .i8 x.perms, .string x.id.scheme, .string x.id.name]] w fun e w' => e = .returned (.tuple #[]) ∧ Puts w g v (xs ++ enB x) w' := by
  obtain ⟨perms, ⟨scheme, name⟩⟩ := x
  simp only at h1 h2 ⊢
  obtain ⟨V, eV⟩ : ∃ V, V = (w.alloc (.cells #[.int .i8 last, .int .u16 wo] 79)).alloc (.cells #[.int .i8 perms, .string scheme, .string name] 103) := ⟨_, rfl⟩
  have HL : Hid (g < w.heap.size ∧ ∀ k, v.ownBlock = some k → k < w.heap.size) := h.lt
  have HV : Hid (IsW V g v xs ∧ ∀ zs W, Puts V g v zs W → Puts w g v zs W ∧ W.cell? ⟨w.heap.size, 0, none⟩ = some (.int .i8 last) ∧ W.cell? ⟨w.heap.size, 1, none⟩ = some (.int .u16 wo) ∧ W.cell? ⟨w.heap.size + 1, 1, none⟩ = some (.string scheme) ∧ W.cell? ⟨w.heap.size + 1, 2, none⟩ = some (.string name)) := by
    refine ⟨by subst eV; exact (h.alloc _).alloc _, fun zs W hp => ⟨by subst eV; exact hp.of_alloc.of_alloc, ?_, ?_, ?_, ?_⟩⟩
    iterate 2 (refine hp.cell (p := ⟨w.heap.size, _, none⟩) ?_ (by have := HL.out.1; show w.heap.size ≠ g; omega) (fun e => by have h1 := HL.out.2 _ e; have : w.heap.size < w.heap.size := h1; omega); subst eV; rw [World.cell?_alloc_lt _ _ _ (by simp), cell_of_row _ _ _ _ _ _ (heap_alloc_new _ _)]; rfl)
    all_goals (refine hp.cell (p := ⟨w.heap.size + 1, _, none⟩) ?_ (by have := HL.out.1; show w.heap.size + 1 ≠ g; omega) (fun e => by have h1 := HL.out.2 _ e; have : w.heap.size + 1 < w.heap.size := h1; omega); subst eV; rw [cell_of_row _ _ _ _ _ _ (by have := heap_alloc_new (w.alloc (.cells #[.int .i8 last, .int .u16 wo] 79)) (.cells #[.int .i8 perms, .string scheme, .string name] 103 (0, 0)); simpa using this)]; rfl)
  have HE : Hid _ := eV
  clear h eV
  go_enter Tryd.func53, Tryd.ntmps53
  go_wp2_with fail
  rw [← HE.out]
  refine (wInt8_any g v xs perms _ HV.out.1 (by omega)).mono ?_
  rintro e w1 ⟨rfl, hp⟩
  have HP : Hid (Puts V g v (xs ++ [perms % 256]) w1) := hp
  clear hp HE
  obtain ⟨_, l0, l1, c1, c2⟩ := HV.out.2 _ _ HP.out
  go_wp2_with fail
  obtain ⟨v1, hW, hN, hK⟩ := HP.out
  refine (putId_any (lay last wo) last wo rfl g v1 _ ⟨scheme, name⟩ _ hW h1 h2 (by simp; omega)).mono ?_
  rintro e w2 ⟨rfl, hp2⟩
  have HQ : Hid (Puts V g v (xs ++ [perms % 256] ++ idB ⟨scheme, name⟩) w2) := Puts.next hN hK hp2
  clear hp2 hW hN hK HP l0 l1 c1 c2
  go_wp2
  go_end0
  refine ⟨rfl, ?_⟩
  have := (HV.out.2 _ _ HQ.out).1
  rw [List.append_assoc] at this
  exact this

theorem putDefE (w : World) : CallsD Tryd.prog 66 #[] .returning w fun e u' w' => e = .returned (.tuple #[]) ∧ u' = .returning ∧ w' = w := by
  refine callsD_of_wpS Tryd.func66 rfl fun c₀ cs hu => ?_
  apply wpS_region
  simp [wpOpsS, go_sem, recoverD, hu, Tryd.ntmps66, bodyPostS, results, Tryd.results66]
  cases c₀
  simp_all

def acB (l : List EnD) : List Int := l.flatMap enB
theorem acB_next (l : List EnD) (k : Nat) (h : k < l.length) : acB (l.take (k + 1)) = acB (l.take k) ++ enB l[k] := by
  rw [List.take_succ_eq_append_getElem h]; simp only [acB, List.flatMap_append, List.flatMap_cons, List.flatMap_nil, List.append_nil]

theorem acB_len (l : List EnD) (h : ∀ x ∈ l, x.id.scheme.size ≤ 2147483647 ∧ x.id.name.size ≤ 2147483647) : (acB l).length ≤ 4294967320 * l.length := by
  induction l with
  | nil => simp [acB]
  | cons x l ih =>
    have e : acB (x :: l) = enB x ++ acB l := by simp [acB]
    have h1 := h x (by simp)
    have h2 := ih (fun y hy => h y (by simp [hy]))
    rw [e, List.length_append, enB, List.length_append, idB, List.length_append, txtB_len, txtB_len]
    simp only [List.length_cons, List.length_nil]
    omega

set_option maxHeartbeats 1000000 in
theorem putListE_any (last wo : Int) (g : Nat) (v u : Value) (xs : List Int) (l : List EnD) (w : World) (h : IsW w g v xs) (hs : SeesR w u 3 (l.map EnD.cells)) (hr : l.length ≤ 4096) (hx : ∀ x ∈ l, x.id.scheme.size ≤ 2147483647 ∧ x.id.name.size ≤ 2147483647) (hb : xs.length ≤ 30000000000000) (hap : ∀ k, liveB u = some k → k ≠ g ∧ v.ownBlock ≠ some k ∧ k < w.heap.size) :
    Calls Tryd.prog 52 #[.pointer (some ⟨g, 0, none⟩), u, .func (.func 53) #[lay last wo] #[]] w fun e w' => e = .returned (.tuple #[]) ∧ Puts w g v (xs ++ (be4 l.length ++ acB l)) w' := by
  have H : Hid (IsW w g v xs ∧ SeesR w u 3 (l.map EnD.cells)) := ⟨h, hs⟩
  have HL : Hid (g < w.heap.size ∧ ∀ k, v.ownBlock = some k → k < w.heap.size) := h.lt
  obtain ⟨ao, cap, rfl, hlc, hcm, h0, h3⟩ := hs
  rw [List.length_map] at hlc ⊢
  unfold maxLen at hcm
  clear h h3 h0
  have hfn : ∀ w, (binOp .eql 104 (.func (.func 53) #[lay last wo] #[]) .nilFunc).run Tryd.prog w = .ok (.bool false) w := fun _ => by kernel_rfl
  go_enter_defers Tryd.func52, Tryd.ntmps52
  go_wp2_with fail
  refine (wInt32_any g v xs l.length _ H.out.1 (by omega)).mono ?_
  rintro e w1 ⟨rfl, hp⟩
  rw [show up32 (l.length : Int) = l.length by unfold up32; omega] at hp
  have HP : Hid (Puts w g v (xs ++ be4 l.length) w1) := hp
  clear hp
  go_wp2
  go_loopw [7, 19] (fun _ i wr => ∃ k : Nat, k ≤ l.length ∧ i = .int .i64 k ∧ Puts w g v (xs ++ be4 l.length ++ acB (l.take k)) wr) (fun _ i _ => l.length - (intOf i).toNat)
  case atStart => exact ⟨0, Nat.zero_le _, rfl, by simpa [acB] using HP.out⟩
  case round =>
    clear HP
    obtain ⟨k, hk, rfl, hp⟩ := hrel
    have HP : Hid (Puts w g v (xs ++ be4 l.length ++ acB (l.take k)) wr) := hp
    clear hp
    by_cases hlt : k < l.length
    · have hap' : ∀ k, liveB (Value.slice ao (l.map EnD.cells).length cap) = some k → k ≠ g ∧ v.ownBlock ≠ some k ∧ k < w.heap.size := hap
      obtain ⟨ao', cap', e, _, _, _, h3⟩ := H.out.2
      simp at e
      obtain ⟨rfl, rfl⟩ := e
      rcases h3 with h3 | ⟨b, off, rfl, h3⟩
      · have : l.length = 0 := by simpa using congrArg List.length h3
        omega
      · have hbk := hap' b (live_at (by rw [List.length_map]; omega))
        have c0 := HP.out.cell (h3 k (by simpa using hlt) 0 (by omega)) hbk.1 hbk.2.1
        have c1 := HP.out.cell (h3 k (by simpa using hlt) 1 (by omega)) hbk.1 hbk.2.1
        have c2 := HP.out.cell (h3 k (by simpa using hlt) 2 (by omega)) hbk.1 hbk.2.1
        simp [EnD.cells] at c0 c1 c2
        have HT : Hid (acB (l.take (k + 1)) = acB (l.take k) ++ enB l[k]) := acB_next l k hlt
        have HX : Hid _ := hx l[k] (List.getElem_mem hlt)
        have HN : Hid ((acB (l.take k)).length ≤ 4294967320 * (l.take k).length) := acB_len (l.take k) (fun x hx' => hx x (List.mem_of_mem_take hx'))
        clear h3 hap hap' hx
        generalize l[k] = x at *
        go_wp2_with fail
        obtain ⟨vk, hW, hNw, hK⟩ := (HP.out.later (one_alloc wr _))
        refine (putEntry_any last wo g vk _ x _ hW HX.out.1 HX.out.2 (by have := HN.out; simp [be4] at this ⊢; omega)).mono ?_
        rintro e w2 ⟨rfl, hp2⟩
        have hp3 := Puts.next hNw hK hp2
        rw [List.append_assoc, ← HT.out] at hp3
        have HP2 : Hid (Puts w g v (xs ++ be4 l.length ++ acB (l.take (k + 1))) w2) := hp3
        clear hp2 hp3 hW hNw hK
        go_wp2
        go_roundw
        case rel => exact ⟨k + 1, by omega, by go_num, HP2.out⟩
        case measure => simp [intOf]; omega
    · obtain rfl : k = l.length := by omega
      have hp := HP.out
      rw [List.take_length] at hp
      have HQ : Hid (Puts w g v (xs ++ (be4 l.length ++ acB l)) wr) := by rw [← List.append_assoc]; exact hp
      clear hp HP
      go_wp2
      refine leaves_cons (f := 66) (args := #[]) (by simp) (by simp [go_sem]) ?_
      refine (putDefE _).mono ?_
      rintro e u' w'' ⟨rfl, rfl, rfl⟩
      exact ⟨_, results_none rfl _ _ _, rfl, HQ.out⟩

end Go.Proofs.YtljghfglabgckaaDoor

/- What pack.Sum and EqBytes of lagoonref00 answer: the Adler-32 sum of the bytes that are given; whether two lists of bytes are the same. -/
namespace Go.Proofs.YtljghfglabgckaaDoor
open Go.RowKit
set_option maxRecDepth 8000

set_option maxHeartbeats 400000 in
theorem eqBytes_any (v u : Value) (xs ys : List Int) (w : World) (h : Sees w v xs) (g : Sees w u ys) :
    Calls Tryd.prog 41 #[v, u] w fun e w' => e = .returned (.bool (decide (xs = ys))) ∧ ∃ n, w' = w.drewN n := by
  obtain ⟨ao, cap, rfl, hlc, hcm, _, h3⟩ := h
  obtain ⟨bo, cbp, rfl, glc, gcm, _, g3⟩ := g
  unfold maxLen at hcm gcm
  by_cases hl : xs.length = ys.length
  · have hl1 : xs.length ≤ ys.length := by omega
    have hl2 : ys.length ≤ xs.length := by omega
    have hn0 : ((xs.length : Int) != (ys.length : Int)) = false := by simp; omega
    clear hl
    go_enter Tryd.func41, Tryd.ntmps41
    go_wp2
    go_loopw [5] (fun i wr => ∃ k m : Nat, k ≤ xs.length ∧ i = .int .i64 k ∧ xs.take k = ys.take k ∧ wr = w.drewN m) (fun i _ => xs.length - (intOf i).toNat)
    case atStart => exact ⟨0, 0, Nat.zero_le _, rfl, rfl, rfl⟩
    case round =>
      obtain ⟨k, m, hk, rfl, heq, rfl⟩ := hrel
      have HE : Hid _ := heq
      clear heq
      by_cases hlt : k < xs.length
      · rcases h3 with h3 | ⟨b, off, rfl, h3⟩
        · subst h3; simp at hlt
        · rcases g3 with g3 | ⟨b', off', rfl, g3⟩
          · have : ys.length = 0 := by rw [g3]; rfl
            omega
          · have hlt' : k < ys.length := by omega
            have hc := h3 k hlt
            have gc := g3 k hlt'
            have HN : Hid _ := take_next_eq hlt hlt' HE.out
            have HD : Hid _ := ne_of_nth (xs := xs) (ys := ys) k
            clear h3 g3
            generalize xs.getD k 0 = x at *
            generalize ys.getD k 0 = y at *
            by_cases hxy : x = y
            · subst hxy
              go_wp2
              go_region
              all_goals go_wp2
              all_goals go_roundw
              case rel => exact ⟨k + 1, _, by omega, by go_num, HN.out trivial, rfl⟩
              case measure => simp [intOf]; omega
            · have hne : (x != y) = true := by simp [hxy]
              clear hxy
              go_wp2
              go_region
              all_goals go_wp2
              all_goals go_ret
              have hxy : x ≠ y := by simpa using hne
              exact ⟨by rw [decide_eq_false (HD.out hxy)]; rfl, _, rfl⟩
      · have he : xs = ys := by
          have := HE.out
          rw [List.take_of_length_le (by omega), List.take_of_length_le (by omega)] at this
          exact this
        subst he
        go_wp2
        go_ret
        exact ⟨by simp, _, rfl⟩
  · have hn : ((xs.length : Int) != (ys.length : Int)) = true := by simp; omega
    have hq : xs ≠ ys := fun e => hl (by rw [e])
    have HQ : Hid _ := hq
    clear hl hq
    go_enter Tryd.func41, Tryd.ntmps41
    go_wp2
    go_ret
    exact ⟨by rw [decide_eq_false HQ.out]; rfl, 0, rfl⟩

end Go.Proofs.YtljghfglabgckaaDoor
