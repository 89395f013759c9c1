/- What isBounded of package txn answers where all ahead of the Ops is within its bounds. -/
import Derived.Test.YteoghfmhbdkjbaaGreatDoorChk2J
import Derived.Test.YteoghfmhbdkjbaaGreatDoorProg
import Derived.Test.YteoghfmhbdkjbaaGreatDoorBaseJ
import Derived.Test.YteoghfmhbdkjbaaGreatDoorRqJ
import Derived.BigQuiet
namespace Go.Proofs.YteoghfmhbdkjbaaGreatDoor
open Go.RowKit
set_option maxRecDepth 8000

def aclOk (l : List EnD) : Bool := decide ((l.length : Int) ≤ 4) && l.all (fun x => idOk x.id)
def whoOk (l : List IdD) : Bool := decide ((l.length : Int) ≤ 4) && l.all idOk

theorem keep7 {W W' : World} {N : Nat} {v1 v2 v3 v7 v8 v9 v10 : Value} (hb : Below W.heap.size W W') (h : W.cell? ⟨N, 1, none⟩ = some v1 ∧ W.cell? ⟨N, 2, none⟩ = some v2 ∧ W.cell? ⟨N, 3, none⟩ = some v3 ∧ W.cell? ⟨N, 7, none⟩ = some v7 ∧ W.cell? ⟨N, 8, none⟩ = some v8 ∧ W.cell? ⟨N, 9, none⟩ = some v9 ∧ W.cell? ⟨N, 10, none⟩ = some v10) :
    W'.cell? ⟨N, 1, none⟩ = some v1 ∧ W'.cell? ⟨N, 2, none⟩ = some v2 ∧ W'.cell? ⟨N, 3, none⟩ = some v3 ∧ W'.cell? ⟨N, 7, none⟩ = some v7 ∧ W'.cell? ⟨N, 8, none⟩ = some v8 ∧ W'.cell? ⟨N, 9, none⟩ = some v9 ∧ W'.cell? ⟨N, 10, none⟩ = some v10 :=
  ⟨cell_later h.1 hb (Nat.le_refl _), cell_later h.2.1 hb (Nat.le_refl _), cell_later h.2.2.1 hb (Nat.le_refl _), cell_later h.2.2.2.1 hb (Nat.le_refl _), cell_later h.2.2.2.2.1 hb (Nat.le_refl _), cell_later h.2.2.2.2.2.1 hb (Nat.le_refl _), cell_later h.2.2.2.2.2.2 hb (Nat.le_refl _)⟩

set_option maxHeartbeats 2000000 in
theorem isBounded_true (f : RqF) (n : Nat) (ops : Fin n → Rq) (dv av wv ov : Value) (oc : Fin n → List Value) (p : Fin n → Bool) (w : World)
    (hd : Sees w dv f.data) (ha : SeesR w av 3 (f.acl.map EnD.cells)) (hw : SeesR w wv 2 (f.who.map IdD.cells)) (ho : SeesR w ov 11 (List.ofFn oc)) (hs : ∀ i : Fin n, SeesRq w (oc i) (ops i)) (hn : n ≤ 140737488355328)
    (hc : ∀ i (W : World), Below w.heap.size w W → Calls Tryz.prog 27 #[lay 5 320, .agg (oc i).toArray] W fun r W' => r = .returned (.bool (p i)) ∧ Below W.heap.size W W')
    (b1 : f.path.size ≤ 64) (b2 : f.data.length ≤ 96) (b3 : aclOk f.acl = true) (b4 : 0 ≤ f.ses) (b5 : 0 ≤ f.tmo) (b6 : f.tmo ≤ 1000) (b7 : whoOk f.who = true) :
    Calls Tryz.prog 57 #[.agg (rqCells f dv av wv ov).toArray] w fun r w' => r = .returned (.bool (decide ((n : Int) ≤ 8) && (List.ofFn p).all id)) ∧ Below w.heap.size w w' := by
  obtain ⟨kind, path, data, acl, ver, eph, seq, ses, tmo, who⟩ := f
  simp only at hd ha hw b1 b2 b3 b4 b5 b6 b7
  obtain ⟨da, dc, rfl, _⟩ := id hd
  obtain ⟨aa, ac, ea, _⟩ := id ha
  obtain ⟨wa, wc, ew, _⟩ := id hw
  obtain ⟨oa, occ, eo, _⟩ := id ho
  rw [List.length_map] at ea ew
  rw [List.length_ofFn] at eo
  have HA : Hid (∀ W : World, Below w.heap.size w W → Calls Tryz.prog 92 #[av, .int .i64 4, .func (.func 93) #[] #[]] W fun r w' => r = .returned (.bool true) ∧ Below W.heap.size W w') := fun W hW => by
    have := isListE_any av acl 4 W (ha.below hW (Nat.le_refl _))
    rw [show (decide ((acl.length : Int) ≤ 4) && acl.all (fun x => idOk x.id)) = true from b3] at this
    exact this
  have HW : Hid (∀ W : World, Below w.heap.size w W → Calls Tryz.prog 94 #[wv, .int .i64 4, .func (.func 95) #[] #[]] W fun r w' => r = .returned (.bool true) ∧ Below W.heap.size W w') := fun W hW => by
    have := isListI_any wv who 4 W (hw.below hW (Nat.le_refl _))
    rw [show (decide ((who.length : Int) ≤ 4) && who.all (fun x => idOk x)) = true from b7] at this
    exact this
  have HO : Hid (∀ W : World, Below w.heap.size w W → Calls Tryz.prog 96 #[ov, .int .i64 8, .func (.func 27) #[lay 5 320] #[]] W fun r w' => r = .returned (.bool (decide ((n : Int) ≤ 8) && (List.ofFn p).all id)) ∧ Below W.heap.size W w') := fun W hW =>
    isListR_any ov n oc ops p 8 W (ho.below hW (Nat.le_refl _)) (fun i => (hs i).later hW (Nat.le_refl _)) hn (fun i V hV => hc i V (hW.trans (hV.mono hW.size)))
  subst ea ew eo
  clear ha hw ho hs hc hd b3 b7
  simp only [rqCells]
  generalize acl.length = al at *
  generalize who.length = wl at *
  have HB0 : Hid (∀ o : Obj, Below w.heap.size w (w.alloc o).drew) := fun o => below_drewN (one_alloc w o) 1
  go_enter Tryz.func57, Tryz.ntmps57
  go_wp2_with fail
  generalize eW0 : (w.alloc (.cells #[.int .i8 kind, .string path, .slice da data.length dc, .slice aa al ac, .int .i32 ver, .bool eph, .bool seq, .int .i64 ses, .int .i32 tmo, .slice wa wl wc, .slice oa n occ] 33)) = W0
  have k0 : W0.drew.cell? ⟨w.heap.size, 1, none⟩ = some (.string path) ∧ W0.drew.cell? ⟨w.heap.size, 2, none⟩ = some (.slice da data.length dc) ∧ W0.drew.cell? ⟨w.heap.size, 3, none⟩ = some (.slice aa al ac) ∧ W0.drew.cell? ⟨w.heap.size, 7, none⟩ = some (.int .i64 ses) ∧ W0.drew.cell? ⟨w.heap.size, 8, none⟩ = some (.int .i32 tmo) ∧ W0.drew.cell? ⟨w.heap.size, 9, none⟩ = some (.slice wa wl wc) ∧ W0.drew.cell? ⟨w.heap.size, 10, none⟩ = some (.slice oa n occ) := by
    subst eW0
    refine ⟨?_, ?_, ?_, ?_, ?_, ?_, ?_⟩ <;> (show World.cell? (w.alloc _) _ = _; rw [cell_of_row _ _ _ _ _ _ (heap_alloc_new _ _)]; rfl)
  have g0 : Below w.heap.size w W0.drew := by subst eW0; exact HB0.out _
  have HK0 : Hid (W0.drew.cell? ⟨w.heap.size, 1, none⟩ = some (.string path)) := k0.1
  have e1 : decide ((path.size : Int) ≤ 64) = true := by simp; omega
  have e2 : decide ((data.length : Int) ≤ 96) = true := by simp; omega
  have e4 : decide (0 ≤ ses) = true := by simpa using b4
  have e5 : decide (0 ≤ tmo) = true := by simpa using b5
  have e6 : decide (tmo ≤ 1000) = true := by simpa using b6
  clear HB0 eW0
  go_region_held (fun w' => w'.cell? ⟨w.heap.size, 1, none⟩ = some (.string path) ∧ w'.cell? ⟨w.heap.size, 2, none⟩ = some (.slice da data.length dc) ∧ w'.cell? ⟨w.heap.size, 3, none⟩ = some (.slice aa al ac) ∧ w'.cell? ⟨w.heap.size, 7, none⟩ = some (.int .i64 ses) ∧ w'.cell? ⟨w.heap.size, 8, none⟩ = some (.int .i32 tmo) ∧ w'.cell? ⟨w.heap.size, 9, none⟩ = some (.slice wa wl wc) ∧ w'.cell? ⟨w.heap.size, 10, none⟩ = some (.slice oa n occ)) (first | exact k0 | exact k1 | exact k2 | exact k3 | exact k4)
    (first
    | (go_at_call 92; refine (HA.out _ g0).mono ?_; rintro r w1 ⟨rfl, g1⟩; have g1' : Below w.heap.size w w1 := (g0.trans (g1.mono g0.size)); have k1 := keep7 g1 k0; clear k0 g0 g1)
    | (go_at_call 94; refine (HW.out _ g1').mono ?_; rintro r w2 ⟨rfl, g2⟩; have g2' : Below w.heap.size w w2 := (g1'.trans (g2.mono g1'.size)); have k2 := keep7 g2 k1; clear k1 g1' g2)
    | (go_at_call 77; refine (within_any _).mono ?_; rintro r w3 ⟨rfl, g3⟩; have g3' : Below w.heap.size w w3 := (g2'.trans (g3.mono g2'.size)); have k3 := keep7 g3 k2; clear k2 g2' g3)
    | (go_at_call 96; refine (HO.out _ g3').mono ?_; rintro r w4 ⟨rfl, g4⟩; have g4' : Below w.heap.size w w4 := (g3'.trans (g4.mono g3'.size)); have k4 := keep7 g4 k3; clear k3 g3' g4))
  have HG : Hid (Below w.heap.size w w4) := g4'
  clear g4' k4
  go_wp2
  go_ret
  exact ⟨rfl, HG.out⟩

end Go.Proofs.YteoghfmhbdkjbaaGreatDoor

/- What pack.Sum and EqBytes of lagoonref00 answer: the Adler-32 sum of the bytes that are given; whether two lists of bytes are the same. -/
namespace Go.Proofs.YteoghfmhbdkjbaaGreatDoor
open Go.RowKit
set_option maxRecDepth 8000

set_option maxHeartbeats 400000 in
theorem eqBytes_any (v u : Value) (xs ys : List Int) (w : World) (h : Sees w v xs) (g : Sees w u ys) :
    Calls Tryz.prog 58 #[v, u] w fun e w' => e = .returned (.bool (decide (xs = ys))) ∧ ∃ n, w' = w.drewN n := by
  obtain ⟨ao, cap, rfl, hlc, hcm, _, h3⟩ := h
  obtain ⟨bo, cbp, rfl, glc, gcm, _, g3⟩ := g
  unfold maxLen at hcm gcm
  by_cases hl : xs.length = ys.length
  · have hl1 : xs.length ≤ ys.length := by omega
    have hl2 : ys.length ≤ xs.length := by omega
    have hn0 : ((xs.length : Int) != (ys.length : Int)) = false := by simp; omega
    clear hl
    go_enter Tryz.func58, Tryz.ntmps58
    go_wp2
    go_loopw [5] (fun i wr => ∃ k m : Nat, k ≤ xs.length ∧ i = .int .i64 k ∧ xs.take k = ys.take k ∧ wr = w.drewN m) (fun i _ => xs.length - (intOf i).toNat)
    case atStart => exact ⟨0, 0, Nat.zero_le _, rfl, rfl, rfl⟩
    case round =>
      obtain ⟨k, m, hk, rfl, heq, rfl⟩ := hrel
      have HE : Hid _ := heq
      clear heq
      by_cases hlt : k < xs.length
      · rcases h3 with h3 | ⟨b, off, rfl, h3⟩
        · subst h3; simp at hlt
        · rcases g3 with g3 | ⟨b', off', rfl, g3⟩
          · have : ys.length = 0 := by rw [g3]; rfl
            omega
          · have hlt' : k < ys.length := by omega
            have hc := h3 k hlt
            have gc := g3 k hlt'
            have HN : Hid _ := take_next_eq hlt hlt' HE.out
            have HD : Hid _ := ne_of_nth (xs := xs) (ys := ys) k
            clear h3 g3
            generalize xs.getD k 0 = x at *
            generalize ys.getD k 0 = y at *
            by_cases hxy : x = y
            · subst hxy
              go_wp2
              go_region
              all_goals go_wp2
              all_goals go_roundw
              case rel => exact ⟨k + 1, _, by omega, by go_num, HN.out trivial, rfl⟩
              case measure => simp [intOf]; omega
            · have hne : (x != y) = true := by simp [hxy]
              clear hxy
              go_wp2
              go_region
              all_goals go_wp2
              all_goals go_ret
              have hxy : x ≠ y := by simpa using hne
              exact ⟨by rw [decide_eq_false (HD.out hxy)]; rfl, _, rfl⟩
      · have he : xs = ys := by
          have := HE.out
          rw [List.take_of_length_le (by omega), List.take_of_length_le (by omega)] at this
          exact this
        subst he
        go_wp2
        go_ret
        exact ⟨by simp, _, rfl⟩
  · have hn : ((xs.length : Int) != (ys.length : Int)) = true := by simp; omega
    have hq : xs ≠ ys := fun e => hl (by rw [e])
    have HQ : Hid _ := hq
    clear hl hq
    go_enter Tryz.func58, Tryz.ntmps58
    go_wp2
    go_ret
    exact ⟨by rw [decide_eq_false HQ.out]; rfl, 0, rfl⟩

end Go.Proofs.YteoghfmhbdkjbaaGreatDoor

/- EqAcl and EqIds of lagoonref00 at two lists of the same data: true; nothing is changed. -/
namespace Go.Proofs.YteoghfmhbdkjbaaGreatDoor
open Go.RowKit
set_option maxRecDepth 8000

theorem neqId (a b : ByteArray) (w : World) : (binOp .neq 94 (.agg #[.string a, .string b]) (.agg #[.string a, .string b])).run Tryz.prog w = .ok (.bool false) w := by
  have hu : Tryz.prog.underlying 94 = some (.struct (Tryz.prog.fieldsOf 94)) := by kernel_rfl
  have hp : Tryz.prog.stoodInHeld 94 = false := by kernel_rfl
  have u3 := Tryz.underlying9
  have a3 := Tryz.isAgg9
  have z3 := Tryz.sizeOf9
  rw [run_neq_struct, show (10000 : Nat) = 9999 + 1 from rfl, run_equalIn_agg w 9999 _ _ _ hu hp]
  simp only [Program.fieldsOf, Tryz.underlying94]
  go_simp

theorem eqIdIn (d : Nat) (a b : ByteArray) (w : World) : (Op.equalIn (d + 1 + 1) 94 (.agg #[.string a, .string b]) (.agg #[.string a, .string b])).run Tryz.prog w = .ok true w := by
  have hu : Tryz.prog.underlying 94 = some (.struct (Tryz.prog.fieldsOf 94)) := by kernel_rfl
  have hp : Tryz.prog.stoodInHeld 94 = false := by kernel_rfl
  have u3 := Tryz.underlying9
  have a3 := Tryz.isAgg9
  have z3 := Tryz.sizeOf9
  rw [run_equalIn_agg w (d + 1) _ _ _ hu hp]
  simp only [Program.fieldsOf, Tryz.underlying94]
  go_simp

theorem neqEn (p : Int) (a b : ByteArray) (w : World) : (binOp .neq 96 (.agg #[.int .i8 p, .string a, .string b]) (.agg #[.int .i8 p, .string a, .string b])).run Tryz.prog w = .ok (.bool false) w := by
  have hu : Tryz.prog.underlying 96 = some (.struct (Tryz.prog.fieldsOf 96)) := by kernel_rfl
  have hp : Tryz.prog.stoodInHeld 96 = false := by kernel_rfl
  have hin : ∀ w, (Op.equalIn 9999 94 (.agg #[.string a, .string b]) (.agg #[.string a, .string b])).run Tryz.prog w = .ok true w := eqIdIn 9997 a b
  have u4 := Tryz.underlying25
  have a4 := Tryz.isAgg25
  have z4 := Tryz.sizeOf25
  have a5 := Tryz.isAgg94
  have z5 := Tryz.sizeOf94
  rw [run_neq_struct, show (10000 : Nat) = 9999 + 1 from rfl, run_equalIn_agg w 9999 _ _ _ hu hp]
  simp only [Program.fieldsOf, Tryz.underlying96]
  clear hu hp
  go_simp

set_option maxHeartbeats 400000 in
theorem eqIds_same (v u : Value) (l : List IdD) (w : World) (h : SeesR w v 2 (l.map IdD.cells)) (g : SeesR w u 2 (l.map IdD.cells)) :
    Calls Tryz.prog 60 #[v, u] w fun e w' => e = .returned (.bool true) ∧ ∃ n, w' = w.drewN n := by
  obtain ⟨ao, cap, rfl, hlc, hcm, _, h3⟩ := h
  obtain ⟨bo, cbp, rfl, glc, gcm, _, g3⟩ := g
  unfold maxLen at hcm gcm
  have hg : Tryz.prog.eqGuardType Tryz.prog.depth 94 = false := by kernel_rfl
  rw [List.length_map] at hlc glc ⊢
  go_enter Tryz.func60, Tryz.ntmps60
  go_wp2
  go_loopw [5] (fun i wr => ∃ k m : Nat, k ≤ l.length ∧ i = .int .i64 k ∧ wr = w.drewN m) (fun i _ => l.length - (intOf i).toNat)
  case atStart => exact ⟨0, 0, Nat.zero_le _, rfl, rfl⟩
  case round =>
    obtain ⟨k, m, hk, rfl, rfl⟩ := hrel
    by_cases hlt : k < l.length
    · rcases h3 with h3 | ⟨b, off, rfl, h3⟩
      · have : l.length = 0 := by simpa using congrArg List.length h3
        omega
      · rcases g3 with g3 | ⟨b', off', rfl, g3⟩
        · have : l.length = 0 := by simpa using congrArg List.length g3
          omega
        · have c0 := h3 k (by simpa using hlt) 0 (by omega)
          have c1 := h3 k (by simpa using hlt) 1 (by omega)
          have e0 := g3 k (by simpa using hlt) 0 (by omega)
          have e1 := g3 k (by simpa using hlt) 1 (by omega)
          simp [IdD.cells] at c0 c1 e0 e1
          clear h3 g3
          generalize l[k] = x at *
          have hq := neqId x.scheme x.name
          go_wp2
          go_quiet (fail)
          go_wp2
          go_roundw
          case rel => exact ⟨k + 1, _, by omega, by go_num, rfl⟩
          case measure => simp [intOf]; omega
    · obtain rfl : k = l.length := by omega
      go_wp2
      go_ret
      exact ⟨rfl, m, rfl⟩
set_option maxHeartbeats 400000 in
theorem eqAcl_same (v u : Value) (l : List EnD) (w : World) (h : SeesR w v 3 (l.map EnD.cells)) (g : SeesR w u 3 (l.map EnD.cells)) :
    Calls Tryz.prog 59 #[v, u] w fun e w' => e = .returned (.bool true) ∧ ∃ n, w' = w.drewN n := by
  obtain ⟨ao, cap, rfl, hlc, hcm, _, h3⟩ := h
  obtain ⟨bo, cbp, rfl, glc, gcm, _, g3⟩ := g
  unfold maxLen at hcm gcm
  have hg : Tryz.prog.eqGuardType Tryz.prog.depth 96 = false := by kernel_rfl
  rw [List.length_map] at hlc glc ⊢
  go_enter Tryz.func59, Tryz.ntmps59
  go_wp2
  go_loopw [5] (fun i wr => ∃ k m : Nat, k ≤ l.length ∧ i = .int .i64 k ∧ wr = w.drewN m) (fun i _ => l.length - (intOf i).toNat)
  case atStart => exact ⟨0, 0, Nat.zero_le _, rfl, rfl⟩
  case round =>
    obtain ⟨k, m, hk, rfl, rfl⟩ := hrel
    by_cases hlt : k < l.length
    · rcases h3 with h3 | ⟨b, off, rfl, h3⟩
      · have : l.length = 0 := by simpa using congrArg List.length h3
        omega
      · rcases g3 with g3 | ⟨b', off', rfl, g3⟩
        · have : l.length = 0 := by simpa using congrArg List.length g3
          omega
        · have c0 := h3 k (by simpa using hlt) 0 (by omega)
          have c1 := h3 k (by simpa using hlt) 1 (by omega)
          have c2 := h3 k (by simpa using hlt) 2 (by omega)
          have e2 := g3 k (by simpa using hlt) 2 (by omega)
          have e0 := g3 k (by simpa using hlt) 0 (by omega)
          have e1 := g3 k (by simpa using hlt) 1 (by omega)
          simp [EnD.cells] at c0 c1 c2 e0 e1 e2
          clear h3 g3
          generalize l[k] = x at *
          have hq := neqEn x.perms x.id.scheme x.id.name
          go_wp2
          go_quiet (fail)
          go_wp2
          go_roundw
          case rel => exact ⟨k + 1, _, by omega, by go_num, rfl⟩
          case measure => simp [intOf]; omega
    · obtain rfl : k = l.length := by omega
      go_wp2
      go_ret
      exact ⟨rfl, m, rfl⟩
end Go.Proofs.YteoghfmhbdkjbaaGreatDoor
