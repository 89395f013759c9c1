/- The statements' own calls: act; a list of calls in memory. -/
import Derived.Test.YtdhnbgeijfgfaaaGreatDoorDkQJ
namespace Go.Proofs.YtdhnbgeijfgfaaaGreatDoor
open Go.RowKit Go.Shelf
set_option maxRecDepth 8000

/-- One call, as data. -/
structure OpK where
  kind : Int
  name : ByteArray
  dest : ByteArray
  pa : Option Addr
  pc : Nat
  p : List Int
  n : Int
  ka : Option Addr
  kc : Nat
  keep : List Int

def OpK.pv (o : OpK) : Value := .slice o.pa o.p.length o.pc
def OpK.kv (o : OpK) : Value := .slice o.ka o.keep.length o.kc
def OpK.cells (o : OpK) : List Value := [.int .i64 o.kind, .string o.name, .string o.dest, .slice o.pa o.p.length o.pc, .int .i64 o.n, .slice o.ka o.keep.length o.kc]

/-- What holds of a call in memory, all of it below n. -/
structure GoodOpK (w : World) (n : Nat) (o : OpK) : Prop where
  see : Sees w o.pv o.p
  keep : SeesN w o.kv o.keep
  pl : o.p.length ≤ 140737488355328
  kl : o.keep.length ≤ 140737488355328
  nl : o.name.size ≤ 140737488355328
  dl : o.dest.size ≤ 140737488355328
  pb : o.p ≠ [] → ∀ k, o.pv.ownBlock = some k → k < n
  kb : o.keep ≠ [] → ∀ k, o.kv.ownBlock = some k → k < n
  n1 : o.n ≤ 9223372036854775807

theorem GoodOpK.kept {w w' : World} {S : Nat → Prop} {n : Nat} {o : OpK} (h : GoodOpK w n o) (hk : Kept w w' S) (hS : ∀ k, k < n → ¬ S k) : GoodOpK w' n o :=
  ⟨h.see.keptN hk (fun hy k e => hS k (h.pb hy k e)), h.keep.kept hk (fun hy k e => hS k (h.kb hy k e)), h.pl, h.kl, h.nl, h.dl, h.pb, h.kb, h.n1⟩

def actK (D : DkD) (o : OpK) : Int × DkD :=
  if o.kind = 1 then D.act (D.errA o.name o.p.length) (appF D.files o.name o.p)
  else if o.kind = 2 then D.act (D.errO o.name) (updF D.files o.name durF)
  else if o.kind = 3 then D.act (D.errC o.name o.n) (updF D.files o.name (cutF o.n.toNat))
  else if o.kind = 4 then D.act (D.errR o.name o.dest) (renF D.files o.name o.dest)
  else if o.kind = 5 then D.act (D.errO o.name) (D.files.eraseIdx (dropI D.files o.name))
  else (0, D)

theorem errA_zero {D : DkD} {n : ByteArray} {k : Nat} (h : D.errA n k = 0) : D.on = true ∧ isNm n = true ∧ ¬ (hasF D.files n = false ∧ 64 ≤ D.files.length) ∧ (k : Int) ≤ D.room - usedD D.files := by
  unfold DkD.errA at h
  cases h1 : D.on <;> rw [h1] at h
  · simp at h
  · cases h2 : isNm n <;> rw [h2] at h
    · simp at h
    · rw [if_pos rfl, if_pos rfl] at h
      split at h
      · simp at h
      · rename_i h3
        split at h
        · rename_i h4; exact ⟨rfl, rfl, h3, h4⟩
        · simp at h

theorem errR_zero {D : DkD} {a b : ByteArray} (h : D.errR a b = 0) : D.on = true ∧ isNm a = true ∧ isNm b = true ∧ hasF D.files a = true := by
  unfold DkD.errR at h
  cases h1 : D.on <;> rw [h1] at h
  · simp at h
  · cases h2 : isNm a <;> cases h3 : isNm b <;> rw [h2, h3] at h
    · simp at h
    · simp at h
    · simp at h
    · cases h4 : hasF D.files a <;> rw [h4] at h
      · simp at h
      · exact ⟨rfl, rfl, rfl, rfl⟩

theorem errC_zero {D : DkD} {n : ByteArray} {k : Int} (h : D.errC n k = 0) : D.errO n = 0 ∧ 0 ≤ k ∧ ∀ f, D.files[pl D.files n]? = some f → k ≤ f.bytes.length := by
  unfold DkD.errC at h
  split at h
  · rename_i h1
    split at h
    · rename_i h2
      refine ⟨h1, h2.1, fun f hf => ?_⟩
      have := h2.2
      rw [hf] at this
      simpa using this
    · simp at h
  · rename_i h1
    exact absurd h h1

theorem actK_ok {D : DkD} (h : DkOk D) (o : OpK) : DkOk (actK D o).2 := by
  unfold actK
  split
  · exact h.act _ _ (fun e => by obtain ⟨_, a, b, c⟩ := errA_zero e; exact h.fok.app _ _ a b c)
  · split
    · exact h.act _ _ (fun _ => h.fok.dur _)
    · split
      · exact h.act _ _ (fun e => by obtain ⟨_, a, b⟩ := errC_zero e; exact h.fok.cut _ _ (fun f hf => by have := b f hf; omega))
      · split
        · exact h.act _ _ (fun e => by obtain ⟨_, _, a, b⟩ := errR_zero e; exact h.fok.ren _ _ b a)
        · split
          · exact h.act _ _ (fun _ => h.fok.erase _)
          · exact h

theorem actK_writes (D : DkD) (o : OpK) : (actK D o).2.writes ≤ D.writes + 1 := by
  unfold actK
  repeat' split
  all_goals first | exact act_writes .. | (simp only; omega)

theorem actK_room (D : DkD) (o : OpK) : (actK D o).2.room = D.room := by
  unfold actK
  repeat' split
  all_goals first | exact act_room .. | rfl

set_option maxHeartbeats 1000000 in
theorem act_any {w : World} {p : Nat} {fv : Value} {ms : List FiM} {D : DkD} (h : IsDk w p fv ms D) (ok : DkOk D) (hw : D.writes ≤ 4611686018427387904) (o : OpK) (n : Nat) (ho : GoodOpK w n o) (hpl : o.p.length ≤ 100000000000) (hn : ∀ k, k < n → k < w.heap.size ∧ k ∉ foot p fv ms) :
    Calls Tryz.prog 48 #[.pointer (some ⟨p, 0, none⟩), .agg o.cells.toArray] w (ActTo w p fv ms (actK D o)) := by
  obtain ⟨V, eV⟩ : ∃ V, V = w.alloc (.cells o.cells.toArray 41) := ⟨_, rfl⟩
  have hbV : Below w.heap.size w V := by rw [eV]; exact one_allocK _ _
  have hV : IsDk V p fv ms D := h.later hbV
  have hrow : V.heap[w.heap.size]? = some (.cells o.cells.toArray 41 (0, 0)) := by rw [eV]; exact heap_alloc_new w _
  have hszV : w.heap.size < V.heap.size := lt_of_block hrow
  have d0 : V.cell? ⟨w.heap.size, 0, none⟩ = some (.int .i64 o.kind) := cell_of_row V _ 0 _ _ _ hrow
  have d1 : V.cell? ⟨w.heap.size, 1, none⟩ = some (.string o.name) := cell_of_row V _ 1 _ _ _ hrow
  have d2 : V.cell? ⟨w.heap.size, 2, none⟩ = some (.string o.dest) := cell_of_row V _ 2 _ _ _ hrow
  have d3 : V.cell? ⟨w.heap.size, 3, none⟩ = some (.slice o.pa o.p.length o.pc) := cell_of_row V _ 3 _ _ _ hrow
  have d4 : V.cell? ⟨w.heap.size, 4, none⟩ = some (.int .i64 o.n) := cell_of_row V _ 4 _ _ _ hrow
  have HA : Hid _ := append_any hV ok hw o.name o.pv o.p (ho.see.keptN (Below.kept hbV) (fun hy k e e' => by have := (hn k (ho.pb hy k e)).1; omega)) (fun hy k e => ⟨by have := (hn k (ho.pb hy k e)).1; omega, (hn k (ho.pb hy k e)).2⟩) hpl
  have HS : Hid _ := sync_any hV ok hw o.name
  have HC : Hid _ := cut_any hV ok hw o.name o.n
  have HR : Hid _ := rename_any hV ok hw o.name o.dest
  have HM : Hid _ := remove_any hV ok hw o.name
  have HB : Hid _ := hbV
  have HI : Hid _ := h
  have HE : Hid _ := eV
  obtain ⟨r, hr⟩ : ∃ r, r = actK D o := ⟨_, rfl⟩
  rw [← hr]
  have HRR : Hid _ := hr
  unfold actK at HRR
  have hl := lt_of_block h.row
  have hlV := lt_of_block hV.row
  clear h ok ho hn hbV hV hrow eV hr hpl
  unfold OpK.pv at HA
  obtain ⟨kind, name, dest, pa, pc, pp, nn, ka, kc, keep⟩ := o
  simp only [OpK.cells] at *
  by_cases h1 : kind = 1
  · subst h1
    rw [if_pos rfl] at HRR
    clear HS HC HR HM
    go_enter Tryz.func48, Tryz.ntmps48
    go_upto_region 1 with fail
    rw [← HE.out]
    go_wp2_with fail
    refine Calls.mono HA.out ?_
    rintro e w1 ⟨rfl, fv1, ms1, ht⟩
    have H1 : Hid _ := ht
    clear ht HA
    go_wp2_with fail
    go_ret
    exact ⟨by rw [HRR.out]; rfl, fv1, ms1, by rw [HRR.out]; exact DkTo.after HB.out H1.out⟩
  · by_cases h2 : kind = 2
    · subst h2
      rw [if_neg (by decide), if_pos rfl] at HRR
      clear HA HC HR HM h1
      go_enter Tryz.func48, Tryz.ntmps48
      go_upto_region 1 with fail
      rw [← HE.out]
      go_wp2_with fail
      refine Calls.mono HS.out ?_
      rintro e w1 ⟨rfl, fv1, ms1, ht⟩
      have H1 : Hid _ := ht
      clear ht HS
      go_wp2_with fail
      go_ret
      exact ⟨by rw [HRR.out]; rfl, fv1, ms1, by rw [HRR.out]; exact DkTo.after HB.out H1.out⟩
    · by_cases h3 : kind = 3
      · subst h3
        rw [if_neg (by decide), if_neg (by decide), if_pos rfl] at HRR
        clear HA HS HR HM h1 h2
        go_enter Tryz.func48, Tryz.ntmps48
        go_upto_region 1 with fail
        rw [← HE.out]
        go_wp2_with fail
        refine Calls.mono HC.out ?_
        rintro e w1 ⟨rfl, fv1, ms1, ht⟩
        have H1 : Hid _ := ht
        clear ht HC
        go_wp2_with fail
        go_ret
        exact ⟨by rw [HRR.out]; rfl, fv1, ms1, by rw [HRR.out]; exact DkTo.after HB.out H1.out⟩
      · by_cases h4 : kind = 4
        · subst h4
          rw [if_neg (by decide), if_neg (by decide), if_neg (by decide), if_pos rfl] at HRR
          clear HA HS HC HM h1 h2 h3
          go_enter Tryz.func48, Tryz.ntmps48
          go_upto_region 1 with fail
          rw [← HE.out]
          go_wp2_with fail
          refine Calls.mono HR.out ?_
          rintro e w1 ⟨rfl, fv1, ms1, ht⟩
          have H1 : Hid _ := ht
          clear ht HR
          go_wp2_with fail
          go_ret
          exact ⟨by rw [HRR.out]; rfl, fv1, ms1, by rw [HRR.out]; exact DkTo.after HB.out H1.out⟩
        · by_cases h5 : kind = 5
          · subst h5
            rw [if_neg (by decide), if_neg (by decide), if_neg (by decide), if_neg (by decide), if_pos rfl] at HRR
            clear HA HS HC HR h1 h2 h3 h4
            go_enter Tryz.func48, Tryz.ntmps48
            go_upto_region 1 with fail
            rw [← HE.out]
            go_wp2_with fail
            refine Calls.mono HM.out ?_
            rintro e w1 ⟨rfl, fv1, ms1, ht⟩
            have H1 : Hid _ := ht
            clear ht HM
            go_wp2_with fail
            go_ret
            exact ⟨by rw [HRR.out]; rfl, fv1, ms1, by rw [HRR.out]; exact DkTo.after HB.out H1.out⟩
          · rw [if_neg h1, if_neg h2, if_neg h3, if_neg h4, if_neg h5] at HRR
            clear HA HS HC HR HM
            have e1 : (kind == 1) = false := by simpa using h1
            have e2 : (kind == 2) = false := by simpa using h2
            have e3 : (kind == 3) = false := by simpa using h3
            have e4 : (kind == 4) = false := by simpa using h4
            have e5 : (kind == 5) = false := by simpa using h5
            go_enter Tryz.func48, Tryz.ntmps48
            go_upto_region 1 with fail
            rw [← HE.out]
            go_wp2_with fail
            go_ret
            exact ⟨by rw [HRR.out]; rfl, _, _, by rw [HRR.out]; exact (DkTo.refl HI.out).then HB.out⟩

/-- A list of calls in memory, all of it below n. -/
def SeesOpsK (w : World) (n : Nat) (v : Value) (l : List OpK) : Prop :=
  (∃ a c, v = .slice a l.length c ∧ l.length ≤ c ∧ c ≤ maxLen ∧ (l = [] ∨ ∃ b off, a = some ⟨b, off, none⟩ ∧ b < n ∧ ∀ (i : Nat) (h : i < l.length), w.rangeAt b (off + i * 6) l[i].cells)) ∧ ∀ o ∈ l, GoodOpK w n o

theorem SeesOpsK.kept {w w' : World} {S : Nat → Prop} {n : Nat} {v : Value} {l : List OpK} (h : SeesOpsK w n v l) (hk : Kept w w' S) (hS : ∀ k, k < n → ¬ S k) : SeesOpsK w' n v l := by
  obtain ⟨⟨a, c, rfl, h1, h2, h3⟩, h4⟩ := h
  refine ⟨⟨a, c, rfl, h1, h2, ?_⟩, fun o ho => (h4 o ho).kept hk hS⟩
  rcases h3 with h3 | ⟨b, off, rfl, hb, h3⟩
  · exact .inl h3
  · refine .inr ⟨b, off, rfl, hb, fun i hi j x hj => ?_⟩
    have hc := h3 i hi j x hj
    rw [World.cell?_of_block (hk.block b (World.block_lt_of_cell? w ⟨b, off + i * 6 + j, none⟩ hc) (hS b hb))]
    exact hc

def opSz (o : OpK) : Nat := o.p.length + o.keep.length + o.name.size + o.dest.size
def opsSz : List OpK → Nat
  | [] => 0
  | o :: r => opSz o + opsSz r

theorem opsSz_append (a b : List OpK) : opsSz (a ++ b) = opsSz a + opsSz b := by
  induction a with
  | nil => simp [opsSz]
  | cons o r ih => simp only [List.cons_append, opsSz, ih]; omega
theorem opsSz_next {l : List OpK} {k : Nat} (h : k < l.length) : opsSz (l.take (k + 1)) = opsSz (l.take k) + opSz l[k] := by
  rw [List.take_succ_eq_append_getElem h, opsSz_append]; simp [opsSz]
theorem opsSz_mem {l : List OpK} {o : OpK} (h : o ∈ l) : opSz o ≤ opsSz l := by
  induction l with
  | nil => cases h
  | cons a l ih =>
    simp only [opsSz]
    rcases List.mem_cons.1 h with rfl | h
    · omega
    · have := ih h; omega

theorem wrapI (n : Int) (h0 : -9223372036854775808 ≤ n) (h1 : n ≤ 9223372036854775807) : IntKind.i64.wrap n = n := by rw [IntKind.wrap_i64]; omega

theorem opsSz_take (l : List OpK) (k : Nat) : opsSz (l.take k) ≤ opsSz l := by
  conv => rhs; rw [← List.take_append_drop k l, opsSz_append]
  omega

def byd (l : List OpK) : Bool := decide (2147483647 ≤ l.length + opsSz l)
theorem byd_false {l : List OpK} (h : byd l = false) : l.length < 2147483647 ∧ ∀ o ∈ l, o.p.length < 2147483647 := by
  have e2 := of_decide_eq_false h
  refine ⟨by omega, fun o ho => ?_⟩
  have := opsSz_mem ho
  unfold opSz at this
  omega

set_option maxHeartbeats 1000000 in
theorem beyond_any {w : World} {n : Nat} {v : Value} {l : List OpK} (room : Int) (h : SeesOpsK w n v l) (hll : l.length ≤ 140737488355328) :
    Calls Tryz.prog 4 #[.int .i64 room, v] w fun e w' => e = .returned (.bool (byd l)) ∧ Below w.heap.size w w' := by
  obtain ⟨bb, hbb⟩ : ∃ bb, bb = byd l := ⟨_, rfl⟩
  rw [← hbb]
  have HBB : Hid _ := hbb
  clear hbb
  obtain ⟨⟨a, c, rfl, h1, h2, h3⟩, h4⟩ := h
  unfold maxLen at h2
  have H3 : Hid _ := h3
  have H4 : Hid _ := h4
  clear h3 h4
  go_enter Tryz.func4, Tryz.ntmps4
  go_wp2_with fail
  go_loopw [5, 6] (fun vn vi wr => ∃ k : Nat, k ≤ l.length ∧ vi = .int .i64 k ∧ vn = .int .i64 (l.length + opsSz (l.take k) : Nat) ∧ Hid (l.length + opsSz (l.take k) ≤ 1000000000000000) ∧ Hid (∃ q, wr = w.drewN q)) (fun _ vi _ => l.length - (intOf vi).toNat)
  case atStart => exact ⟨0, Nat.zero_le _, rfl, by simp [opsSz], by show _ ≤ _; simp [opsSz]; omega, ⟨0, rfl⟩⟩
  case round =>
    obtain ⟨k, hk, rfl, rfl, HS, HW⟩ := hrel
    obtain ⟨q, rfl⟩ := HW.out
    obtain ⟨N, hN⟩ : ∃ N, N = l.length + opsSz (l.take k) := ⟨_, rfl⟩
    rw [← hN] at HS ⊢
    have hN1 := HS.out
    have HNN : Hid _ := hN
    clear hN HS
    by_cases hlt : k < l.length
    · have hd1 : decide ((k : Int) < (l.length : Int)) = true := decide_eq_true (by omega)
      by_cases hn2 : (N : Int) < 2147483647
      · have hd2 : decide ((N : Int) < 2147483647) = true := decide_eq_true hn2
        rcases H3.out with e | ⟨b, off, rfl, hb, hr⟩
        · rw [e] at hlt; simp at hlt
        · have hg := H4.out l[k] (List.getElem_mem hlt)
          have hrk := hr k hlt
          have c1 : w.cell? ⟨b, off + k * 6 + 1, none⟩ = some (.string l[k].name) := hrk 1 _ rfl
          have c2 : w.cell? ⟨b, off + k * 6 + 2, none⟩ = some (.string l[k].dest) := hrk 2 _ rfl
          have c3 : w.cell? ⟨b, off + k * 6 + 3, none⟩ = some (.slice l[k].pa l[k].p.length l[k].pc) := hrk 3 _ rfl
          have c5 : w.cell? ⟨b, off + k * 6 + 5, none⟩ = some (.slice l[k].ka l[k].keep.length l[k].kc) := hrk 5 _ rfl
          have hs1 := hg.pl
          have hs2 := hg.kl
          have hs3 := hg.nl
          have hs4 := hg.dl
          have e1 := opsSz_next hlt
          unfold opSz at e1
          have HE : Hid _ := e1
          clear e1 hr hrk hg
          generalize l[k] = o at *
          go_wp2_with fail
          go_quiet (fail)
          have hww : IntKind.i64.wrap (IntKind.i64.wrap (IntKind.i64.wrap (IntKind.i64.wrap ((N : Int) + o.p.length) + o.keep.length) + o.name.size) + o.dest.size) = ((N + (o.p.length + o.keep.length + o.name.size + o.dest.size) : Nat) : Int) := by
            rw [wrapI ((N : Int) + o.p.length) (by omega) (by omega), wrapI ((N : Int) + o.p.length + o.keep.length) (by omega) (by omega), wrapI ((N : Int) + o.p.length + o.keep.length + o.name.size) (by omega) (by omega), wrapI ((N : Int) + o.p.length + o.keep.length + o.name.size + o.dest.size) (by omega) (by omega)]
            omega
          rw [hww]
          obtain ⟨M, hM⟩ : ∃ M, M = N + (o.p.length + o.keep.length + o.name.size + o.dest.size) := ⟨_, rfl⟩
          rw [← hM]
          have HM : Hid (M = l.length + opsSz (l.take (k + 1)) ∧ M ≤ 1000000000000000) := ⟨by rw [hM, HE.out, HNN.out]; omega, by omega⟩
          clear hM hww c1 c2 c3 c5 hs1 hs2 hs3 hs4 HE
          go_wp2_with fail
          go_roundw
          case rel => exact ⟨k + 1, by omega, by go_num, by rw [HM.out.1], by rw [← HM.out.1]; exact HM.out.2, ⟨_, rfl⟩⟩
          case measure => simp [intOf]; omega
      · have hd2 : decide ((N : Int) < 2147483647) = false := decide_eq_false hn2
        obtain rfl : bb = true := by
          rw [HBB.out]
          have := opsSz_take l k
          have := HNN.out
          exact decide_eq_true (by omega)
        go_wp2_with fail
        go_ret
        exact ⟨rfl, below_drewN (Below.refl _ _) _⟩
    · have hd1 : decide ((k : Int) < (l.length : Int)) = false := decide_eq_false (by omega)
      have hkl : k = l.length := by omega
      have hN2 : N = l.length + opsSz l := by rw [HNN.out, hkl, List.take_length]
      obtain rfl : bb = decide ((2147483647 : Int) ≤ (N : Int)) := by
        rw [HBB.out]
        unfold byd
        rw [← hN2]
        congr 1
        apply propext
        omega
      clear hN2 hkl
      go_wp2_with fail
      go_ret
      exact ⟨rfl, below_drewN (Below.refl _ _) _⟩
end Go.Proofs.YtdhnbgeijfgfaaaGreatDoor
