/- A byte of a packet's bytes, turned: the sum and the bytes no longer fit. No Go function is walked here. -/
import Derived.Test.YtochbjafdcbckaaGreatDoorPkQJ
import Derived.Test.YtochbjafdcbckaaGreatDoorCopySJ
import Derived.Test.YtochbjafdcbckaaGreatDoorChk3J
namespace Go.Proofs.YtochbjafdcbckaaGreatDoor
open Go.RowKit
set_option maxRecDepth 8000

theorem xor_byte15 (x y : Int) (h0 : 0 ≤ x) (h1 : x ≤ 255) (h2 : 0 ≤ y) (h3 : y ≤ 255) : 0 ≤ bits .xor .u8 x y ∧ bits .xor .u8 x y ≤ 255 := by
  rw [u8_xor x y (by omega) (by omega) (by omega) (by omega)]
  have := Nat.xor_lt_two_pow (x := x.toNat) (y := y.toNat) (n := 8) (by omega) (by omega)
  omega
theorem sum_set15 (xs : List Int) (k : Nat) (y : Int) (h : k < xs.length) : (xs.set k y).sum = xs.sum - xs.getD k 0 + y := by
  induction xs generalizing k with
  | nil => simp at h
  | cons x xs ih =>
    cases k with
    | zero => simp; omega
    | succ k =>
      have := ih k (by simpa using h)
      simp [List.set_cons_succ] at this ⊢
      omega

theorem adl_low15 (xs : List Int) : (adl xs).1 = (1 + xs.sum) % 65521 := by
  suffices h : ∀ s : Int × Int, (xs.foldl adlStep s).1 % 65521 = (s.1 + xs.sum) % 65521 by
    have h1 := h (1, 0)
    have h2 := adl_bd xs
    unfold adl at h2 ⊢
    simp only at h1
    omega
  induction xs with
  | nil => intro s; simp
  | cons x xs ih =>
    intro s
    rw [List.foldl_cons, ih, List.sum_cons]
    simp only [adlStep]
    omega

theorem xor_turns15 (x b : Int) (h0 : 0 ≤ x) (h1 : x ≤ 255) (h2 : 0 < b) (h3 : b ≤ 255) : bits .xor .u8 x b ≠ x := by
  rw [u8_xor x b (by omega) (by omega) (by omega) (by omega)]
  intro e
  have e1 : x.toNat ^^^ b.toNat = x.toNat := by omega
  have e2 := congrArg (x.toNat ^^^ ·) e1
  simp only [← Nat.xor_assoc, Nat.xor_self, Nat.zero_xor] at e2
  omega

theorem turned15 (xs : List Int) (k : Nat) (b : Int) (hk : k < xs.length) (hb : Byts xs) (h0 : 0 < b) (h1 : b ≤ 255) : adler xs ≠ adler (xs.set k (bits .xor .u8 (xs.getD k 0) b)) := by
  have hx := hb.nth k
  have hne := xor_turns15 (xs.getD k 0) b hx.1 hx.2 h0 h1
  have hy := xor_byte15 (xs.getD k 0) b hx.1 hx.2 (by omega) h1
  have hs := sum_set15 xs k (bits .xor .u8 (xs.getD k 0) b) hk
  generalize bits .xor .u8 (xs.getD k 0) b = y at *
  have l1 := adl_low15 xs
  have l2 := adl_low15 (xs.set k y)
  have b1 := adl_bd xs
  have b2 := adl_bd (xs.set k y)
  unfold adler
  intro e
  have : (adl xs).1 = (adl (xs.set k y)).1 := by omega
  rw [l1, l2, hs] at this
  omega

theorem be4_num15 {xs : List Int} (hb : Byts xs) (hl : xs.length = 4) : be4 (num xs) = xs := by
  match xs, hl with
  | [a, b, c, d], _ =>
    have ha := hb a (by simp)
    have hb' := hb b (by simp)
    have hc := hb c (by simp)
    have hd := hb d (by simp)
    simp only [num, be4, List.foldl_cons, List.foldl_nil]
    have e1 : (((0 * 256 + a) * 256 + b) * 256 + c) * 256 + d = a * 16777216 + b * 65536 + c * 256 + d := by omega
    rw [e1]
    have q1 : (a * 16777216 + b * 65536 + c * 256 + d) / 16777216 = a := by omega
    have q2 : (a * 16777216 + b * 65536 + c * 256 + d) / 65536 % 256 = b := by omega
    have q3 : (a * 16777216 + b * 65536 + c * 256 + d) / 256 % 256 = c := by omega
    have q4 : (a * 16777216 + b * 65536 + c * 256 + d) % 256 = d := by omega
    rw [q1, q2, q3, q4]

/-- The turned bytes, as a number and what stands behind it: they don't fit. -/
theorem turn_split (body : List Int) (k : Nat) (b : Int) (hb : Byts body) (hk : k < 4 + body.length) (h0 : 0 < b) (h1 : b ≤ 255) :
    ∃ s ys, (be4 (adler body) ++ body).set k (bits .xor .u8 ((be4 (adler body) ++ body).getD k 0) b) = be4 s ++ ys ∧ Byts (be4 s ++ ys) ∧ ys.length = body.length ∧ s ≠ adler ys := by
  have had := adler_bd body
  have h4 : Byts (be4 (adler body)) := byts4 _ had.1 had.2
  by_cases hlt : k < 4
  · have hg : (be4 (adler body) ++ body).getD k 0 = (be4 (adler body)).getD k 0 := by
      simp only [List.getD_eq_getElem?_getD]
      rw [List.getElem?_append_left (by simp [be4]; omega)]
    have hx := h4.nth k
    have hy := xor_byte15 ((be4 (adler body)).getD k 0) b hx.1 hx.2 (by omega) h1
    have hne := xor_turns15 ((be4 (adler body)).getD k 0) b hx.1 hx.2 h0 h1
    rw [hg]
    generalize bits .xor .u8 ((be4 (adler body)).getD k 0) b = y at *
    have hl : ((be4 (adler body)).set k y).length = 4 := by simp [be4]
    have hby : Byts ((be4 (adler body)).set k y) := fun z hz => by
      rcases List.mem_or_eq_of_mem_set hz with h | h
      · exact h4 z h
      · subst h; exact hy
    refine ⟨num ((be4 (adler body)).set k y), body, ?_, ?_, rfl, fun e => ?_⟩
    · rw [List.set_append_left _ _ (by simp [be4]; omega), be4_num15 hby hl]
    · rw [be4_num15 hby hl]; exact hby.append hb
    · have e2 := be4_num15 hby hl
      rw [e] at e2
      apply hne
      have := congrArg (fun l => l.getD k 0) e2
      simp only [List.getD_eq_getElem?_getD] at this ⊢
      rw [List.getElem?_set_self (by simp [be4]; omega)] at this
      simpa using this.symm
  · have hk2 : k - 4 < body.length := by omega
    have hg : (be4 (adler body) ++ body).getD k 0 = body.getD (k - 4) 0 := by
      simp only [List.getD_eq_getElem?_getD]
      rw [List.getElem?_append_right (by simp [be4]; omega)]
      simp [be4]
    have hx := hb.nth (k - 4)
    have hy := xor_byte15 (body.getD (k - 4) 0) b hx.1 hx.2 (by omega) h1
    have ht := turned15 body (k - 4) b hk2 hb h0 h1
    rw [hg]
    generalize bits .xor .u8 (body.getD (k - 4) 0) b = y at *
    refine ⟨adler body, body.set (k - 4) y, ?_, ?_, by simp, ht⟩
    · rw [List.set_append_right _ _ (by simp [be4]; omega)]
      simp [be4]
    · exact h4.append (fun z hz => by
        rcases List.mem_or_eq_of_mem_set hz with h | h
        · exact hb z h
        · subst h; exact hy)
end Go.Proofs.YtochbjafdcbckaaGreatDoor

/- Lists of entries and ids in memory, place by place. -/
namespace Go.Proofs.YtochbjafdcbckaaGreatDoor
open Go.RowKit
set_option maxRecDepth 8000

theorem cellsEW {w : World} {v : Value} {l : List EnD} (h : SeesR w v 3 (l.map EnD.cells)) : ∃ ao cap, v = .slice ao l.length cap ∧ l.length ≤ cap ∧ Hid (∀ k (hk : k < l.length), ∃ b off, ao = some ⟨b, off, none⟩ ∧ w.cell? ⟨b, off + k * 3, none⟩ = some (.int .i8 l[k].1) ∧ w.cell? ⟨b, off + k * 3 + 1, none⟩ = some (.string l[k].2.1) ∧ w.cell? ⟨b, off + k * 3 + 2, none⟩ = some (.string l[k].2.2)) := by
  obtain ⟨ao, cap, h1, h2, _, _, h3⟩ := h
  rw [List.length_map] at h1 h2
  refine ⟨ao, cap, h1, h2, fun k hk => ?_⟩
  rcases h3 with h3 | ⟨b, off, e, h3⟩
  · have : l.length = 0 := by simpa using congrArg List.length h3
    omega
  · have h := h3 k (by rw [List.length_map]; exact hk)
    refine ⟨b, off, e, ?_, ?_, ?_⟩
    · exact (h 0 (by omega)).trans (by simp [EnD.cells])
    · exact (h 1 (by omega)).trans (by simp [EnD.cells])
    · exact (h 2 (by omega)).trans (by simp [EnD.cells])

theorem cellsIW {w : World} {v : Value} {l : List IdD} (h : SeesR w v 2 (l.map IdD.cells)) : ∃ ao cap, v = .slice ao l.length cap ∧ l.length ≤ cap ∧ Hid (∀ k (hk : k < l.length), ∃ b off, ao = some ⟨b, off, none⟩ ∧ w.cell? ⟨b, off + k * 2, none⟩ = some (.string l[k].1) ∧ w.cell? ⟨b, off + k * 2 + 1, none⟩ = some (.string l[k].2)) := by
  obtain ⟨ao, cap, h1, h2, _, _, h3⟩ := h
  rw [List.length_map] at h1 h2
  refine ⟨ao, cap, h1, h2, fun k hk => ?_⟩
  rcases h3 with h3 | ⟨b, off, e, h3⟩
  · have : l.length = 0 := by simpa using congrArg List.length h3
    omega
  · have h := h3 k (by rw [List.length_map]; exact hk)
    refine ⟨b, off, e, ?_, ?_⟩
    · exact (h 0 (by omega)).trans (by simp [IdD.cells])
    · exact (h 1 (by omega)).trans (by simp [IdD.cells])
end Go.Proofs.YtochbjafdcbckaaGreatDoor

/- Letters, has, ids, acl of the document's layer 4. -/
namespace Go.Proofs.YtochbjafdcbckaaGreatDoor
open Go.RowKit
set_option maxRecDepth 8000

/-- What a kind names, as the document's letters. -/
def lt4 (k : Int) : ByteArray :=
  if k = 1 then ⟨#[112, 100, 97, 102, 115, 119]⟩ else if k = 2 ∨ k = 5 then ⟨#[112, 118, 115, 119]⟩ else if k = 3 then ⟨#[112, 100, 118, 115, 119]⟩ else if k = 4 then ⟨#[112, 97, 118, 115, 119]⟩
  else if k = 6 then ⟨#[115, 119, 111]⟩ else if k = 7 then ⟨#[116]⟩ else if k = 8 then ⟨#[115]⟩ else if k = 9 ∨ k = 10 ∨ k = 11 ∨ k = 12 then ⟨#[112, 115, 119]⟩ else ⟨#[]⟩

theorem letters_any (k : Int) (w : World) : Calls Tryz.prog 103 #[.int .i8 k] w fun r w' => r = .returned (.string (lt4 k)) ∧ w' = w := by
  go_enter Tryz.func103, Tryz.ntmps103
  go_wp2
  all_goals (go_ret; refine ⟨?_, rfl⟩; unfold lt4; simp at *; simp [*])

/-- Does a text have a letter? -/
def hasB (s : ByteArray) (c : Int) : Bool := s.data.toList.any (fun b => decide ((b.toNat : Int) = c))

theorem hasB_true {s : ByteArray} {c : Int} {i : Nat} (h : i < s.size) (e : ((s[i]).toNat : Int) = c) : hasB s c = true := by
  unfold hasB
  rw [List.any_eq_true]
  refine ⟨s[i], ?_, by simpa using e⟩
  show s.data[i] ∈ s.data.toList
  simp
theorem hasB_false {s : ByteArray} {c : Int} (h : ∀ i (hi : i < s.size), ((s[i]).toNat : Int) ≠ c) : hasB s c = false := by
  unfold hasB
  rw [List.any_eq_false]
  intro b hb
  obtain ⟨i, hi, rfl⟩ := List.getElem_of_mem hb
  have : ((s.data[i]).toNat : Int) ≠ c := h i (by simpa using hi)
  simpa using this

set_option maxHeartbeats 1000000 in
theorem has_any (s : ByteArray) (c : Int) (w : World) (hs : s.size ≤ 1000) : Calls Tryz.prog 104 #[.string s, .int .u8 c] w fun r w' => r = .returned (.bool (hasB s c)) ∧ w' = w := by
  go_enter Tryz.func104, Tryz.ntmps104
  go_wp2
  go_loop [5] (fun i => ∃ k : Nat, k ≤ s.size ∧ i = .int .i64 k ∧ Hid (∀ j (hj : j < s.size), j < k → ((s[j]).toNat : Int) ≠ c)) (fun i => s.size - (intOf i).toNat)
  case atStart => exact ⟨0, Nat.zero_le _, rfl, fun j _ h => by omega⟩
  case round =>
    obtain ⟨k, hk, rfl, HN⟩ := hrel
    by_cases hlt : k < s.size
    · by_cases he : ((s[k]).toNat : Int) = c
      · have HT : Hid (hasB s c = true) := hasB_true hlt he
        have he' : (((s[k]).toNat : Int) == c) = true := by simpa using he
        go_wp2
        all_goals (go_ret; exact ⟨by rw [HT.out]; rfl, rfl⟩)
      · have HN2 : Hid (∀ j (hj : j < s.size), j < k + 1 → ((s[j]).toNat : Int) ≠ c) := fun j hj h => by
          by_cases e : j = k
          · subst e; exact he
          · exact HN.out j hj (by omega)
        have he' : (((s[k]).toNat : Int) == c) = false := by simpa using he
        go_wp2
        go_round
        case rel => exact ⟨k + 1, by omega, by go_num, HN2⟩
        case measure => simp [intOf]; omega
    · have HF : Hid (hasB s c = false) := hasB_false (fun i hi => HN.out i hi (by omega))
      go_wp2
      go_ret
      exact ⟨by rw [HF.out]; rfl, rfl⟩

set_option maxHeartbeats 1000000 in
theorem refIds_any (v : Value) (l : List IdD) (w : World) (h : SeesR w v 2 (l.map IdD.cells)) (hl : l.length ≤ 140737488355328) (hg : ∀ x ∈ l, x.scheme.size ≤ 140737488355328 ∧ x.name.size ≤ 140737488355328) :
    Calls Tryz.prog 106 #[v] w fun r w' => r = .returned (.bool (whoOk l)) ∧ w' = w := by
  obtain ⟨ao, cap, rfl, hlc, HC⟩ := cellsIW h
  have HG : Hid (∀ x ∈ l, x.scheme.size ≤ 140737488355328 ∧ x.name.size ≤ 140737488355328) := hg
  clear h hg
  go_enter Tryz.func106, Tryz.ntmps106
  go_wp2
  go_loop [3] (fun i => ∃ k : Nat, k ≤ l.length ∧ i = .int .i64 k ∧ Hid (∀ x ∈ l.take k, idOk x = true)) (fun i => l.length - (intOf i).toNat)
  case atStart => exact ⟨0, Nat.zero_le _, rfl, fun x hx => by simp at hx⟩
  case round =>
    obtain ⟨k, hk, rfl, HN⟩ := hrel
    by_cases hlt : k < l.length
    · obtain ⟨b, off, rfl, k0, k1⟩ := HC.out k hlt
      obtain ⟨g0, g1⟩ := HG.out l[k] (List.getElem_mem hlt)
      have HM : Hid (l[k] ∈ l ∧ l.take (k + 1) = l.take k ++ [l[k]]) := ⟨List.getElem_mem hlt, List.take_succ_eq_append_getElem hlt⟩
      clear HC HG
      generalize l[k] = x at *
      by_cases ho : idOk x = true
      · have hs : x.scheme.size ≤ 24 ∧ x.name.size ≤ 24 := by unfold idOk at ho; simpa using ho
        obtain ⟨hs0, hs1⟩ := hs
        have HN2 : Hid (∀ y ∈ l.take (k + 1), idOk y = true) := fun y hy => by
          rw [HM.out.2] at hy
          rcases List.mem_append.1 hy with h | h
          · exact HN.out y h
          · obtain rfl : y = x := by simpa using h
            exact ho
        clear HM HN ho
        go_wp2
        go_round
        case rel => exact ⟨k + 1, by omega, by go_num, HN2⟩
        case measure => simp [intOf]; omega
      · have HF : Hid (whoOk l = false) := by
          show _ = _
          unfold whoOk
          rw [Bool.and_eq_false_iff]
          right
          rw [List.all_eq_false]
          exact ⟨x, HM.out.1, ho⟩
        have hs : 24 < x.scheme.size ∨ (x.scheme.size ≤ 24 ∧ 24 < x.name.size) := by unfold idOk at ho; simp at ho; omega
        clear HM HN ho
        rcases hs with hs0 | ⟨hs0, hs1⟩
        · go_wp2
          go_ret
          exact ⟨by rw [HF.out]; rfl, rfl⟩
        · go_wp2
          go_ret
          exact ⟨by rw [HF.out]; rfl, rfl⟩
    · obtain rfl : k = l.length := by omega
      have HT : Hid (whoOk l = decide ((l.length : Int) ≤ 4)) := by
        show _ = _
        unfold whoOk
        have : l.all (fun x => idOk x) = true := by
          rw [List.all_eq_true]
          intro x hx
          exact HN.out x (by rw [List.take_length]; exact hx)
        rw [this, Bool.and_true]
      clear HC HG HN
      go_wp2
      go_ret
      exact ⟨by rw [HT.out]; first | rfl | simp, rfl⟩

set_option maxHeartbeats 1000000 in
theorem refAcl_any (v : Value) (l : List EnD) (w : World) (h : SeesR w v 3 (l.map EnD.cells)) (hl : l.length ≤ 140737488355328) (hg : ∀ x ∈ l, x.id.scheme.size ≤ 140737488355328 ∧ x.id.name.size ≤ 140737488355328) :
    Calls Tryz.prog 105 #[v] w fun r w' => r = .returned (.bool (aclOk l)) ∧ w' = w := by
  obtain ⟨ao, cap, rfl, hlc, HC⟩ := cellsEW h
  have HG : Hid (∀ x ∈ l, x.id.scheme.size ≤ 140737488355328 ∧ x.id.name.size ≤ 140737488355328) := hg
  clear h hg
  go_enter Tryz.func105, Tryz.ntmps105
  go_wp2
  go_loop [3] (fun i => ∃ k : Nat, k ≤ l.length ∧ i = .int .i64 k ∧ Hid (∀ x ∈ l.take k, idOk x.id = true)) (fun i => l.length - (intOf i).toNat)
  case atStart => exact ⟨0, Nat.zero_le _, rfl, fun x hx => by simp at hx⟩
  case round =>
    obtain ⟨k, hk, rfl, HN⟩ := hrel
    by_cases hlt : k < l.length
    · obtain ⟨b, off, rfl, k0, k1, k2⟩ := HC.out k hlt
      obtain ⟨g0, g1⟩ := HG.out l[k] (List.getElem_mem hlt)
      have HM : Hid (l[k] ∈ l ∧ l.take (k + 1) = l.take k ++ [l[k]]) := ⟨List.getElem_mem hlt, List.take_succ_eq_append_getElem hlt⟩
      clear HC HG
      generalize l[k] = x at *
      by_cases ho : idOk x.id = true
      · have hs : x.id.scheme.size ≤ 24 ∧ x.id.name.size ≤ 24 := by unfold idOk at ho; simpa using ho
        obtain ⟨hs0, hs1⟩ := hs
        have HN2 : Hid (∀ y ∈ l.take (k + 1), idOk y.id = true) := fun y hy => by
          rw [HM.out.2] at hy
          rcases List.mem_append.1 hy with h | h
          · exact HN.out y h
          · obtain rfl : y = x := by simpa using h
            exact ho
        clear HM HN ho
        go_wp2
        go_round
        case rel => exact ⟨k + 1, by omega, by go_num, HN2⟩
        case measure => simp [intOf]; omega
      · have HF : Hid (aclOk l = false) := by
          show _ = _
          unfold aclOk
          rw [Bool.and_eq_false_iff]
          right
          rw [List.all_eq_false]
          exact ⟨x, HM.out.1, ho⟩
        have hs : 24 < x.id.scheme.size ∨ (x.id.scheme.size ≤ 24 ∧ 24 < x.id.name.size) := by unfold idOk at ho; simp at ho; omega
        clear HM HN ho
        rcases hs with hs0 | ⟨hs0, hs1⟩
        · go_wp2
          go_ret
          exact ⟨by rw [HF.out]; rfl, rfl⟩
        · go_wp2
          go_ret
          exact ⟨by rw [HF.out]; rfl, rfl⟩
    · obtain rfl : k = l.length := by omega
      have HT : Hid (aclOk l = decide ((l.length : Int) ≤ 4)) := by
        show _ = _
        unfold aclOk
        have : l.all (fun x => idOk x.id) = true := by
          rw [List.all_eq_true]
          intro x hx
          exact HN.out x (by rw [List.take_length]; exact hx)
        rw [this, Bool.and_true]
      clear HC HG HN
      go_wp2
      go_ret
      exact ⟨by rw [HT.out]; first | rfl | simp, rfl⟩
end Go.Proofs.YtochbjafdcbckaaGreatDoor

/- May a request be, as the document's letters say. No Go function is walked here. -/
namespace Go.Proofs.YtochbjafdcbckaaGreatDoor
open Go.RowKit
set_option maxRecDepth 8000

theorem lt4_size (k : Int) : (lt4 k).size ≤ 1000 := by
  unfold lt4
  repeat' split
  all_goals decide

/-- May a request be, its Ops aside? -/
def mayB (k : Int) (s : ByteArray) (dl al : Nat) (ver : Int) (eph seq : Bool) (ses tmo : Int) (wl ol : Nat) (qa qw : Bool) : Bool :=
  !(lt4 k).toList.isEmpty && !(!s.toList.isEmpty && !hasB (lt4 k) 112 || decide (64 < s.size)) && !(decide (0 < dl) && !hasB (lt4 k) 100 || decide (96 < dl)) && !(decide (0 < al) && !hasB (lt4 k) 97 || !qa) && !(decide (ver ≠ 0) && !hasB (lt4 k) 118) && !((eph || seq) && !hasB (lt4 k) 102) && !(decide (ses ≠ 0) && !hasB (lt4 k) 115 || decide (ses < 0) || (k == 8) && decide (ses < 1)) && !(hasB (lt4 k) 116 && (decide (tmo < 1) || decide (1000 < tmo)) || !hasB (lt4 k) 116 && decide (tmo ≠ 0)) && !(decide (0 < wl) && !hasB (lt4 k) 119 || !qw) && (if hasB (lt4 k) 111 then decide (1 ≤ ol) && decide (ol ≤ 8) else decide (ol = 0))
end Go.Proofs.YtochbjafdcbckaaGreatDoor
