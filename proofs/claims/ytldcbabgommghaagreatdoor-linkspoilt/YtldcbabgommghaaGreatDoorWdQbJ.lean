/- The document's may and the program's bits agree, kinds 1 to 6. No Go function is walked here. -/
import Derived.Test.YtldcbabgommghaaGreatDoorWdRJ
import Derived.Test.YtldcbabgommghaaGreatDoorChk5J
namespace Go.Proofs.YtldcbabgommghaaGreatDoor
open Go.RowKit
set_option maxRecDepth 8000

theorem fz_9 : ∀ p d a v e s z t o q : Bool, (bits .andNot .u16 (fillz p d a v e s z t o q) 9 == 0) = (!d && !a && !e && !s && !z && !t && !o && !q) := by decide +kernel
theorem fz_11 : ∀ p d a v e s z t o q : Bool, (bits .andNot .u16 (fillz p d a v e s z t o q) 11 == 0) = (!a && !e && !s && !z && !t && !o && !q) := by decide +kernel
theorem fz_13 : ∀ p d a v e s z t o q : Bool, (bits .andNot .u16 (fillz p d a v e s z t o q) 13 == 0) = (!d && !e && !s && !z && !t && !o && !q) := by decide +kernel
theorem fz_55 : ∀ p d a v e s z t o q : Bool, (bits .andNot .u16 (fillz p d a v e s z t o q) 55 == 0) = (!v && !z && !t && !o && !q) := by decide +kernel
theorem fz_64 : ∀ p d a v e s z t o q : Bool, (bits .andNot .u16 (fillz p d a v e s z t o q) 64 == 0) = (!p && !d && !a && !v && !e && !s && !t && !o && !q) := by decide +kernel
theorem fz_128 : ∀ p d a v e s z t o q : Bool, (bits .andNot .u16 (fillz p d a v e s z t o q) 128 == 0) = (!p && !d && !a && !v && !e && !s && !z && !o && !q) := by decide +kernel
theorem fz_321 : ∀ p d a v e s z t o q : Bool, (bits .andNot .u16 (fillz p d a v e s z t o q) 321 == 0) = (!d && !a && !v && !e && !s && !t && !q) := by decide +kernel
theorem fz_329 : ∀ p d a v e s z t o q : Bool, (bits .andNot .u16 (fillz p d a v e s z t o q) 329 == 0) = (!d && !a && !e && !s && !t && !q) := by decide +kernel
theorem fz_331 : ∀ p d a v e s z t o q : Bool, (bits .andNot .u16 (fillz p d a v e s z t o q) 331 == 0) = (!a && !e && !s && !t && !q) := by decide +kernel
theorem fz_333 : ∀ p d a v e s z t o q : Bool, (bits .andNot .u16 (fillz p d a v e s z t o q) 333 == 0) = (!d && !e && !s && !t && !q) := by decide +kernel
theorem fz_375 : ∀ p d a v e s z t o q : Bool, (bits .andNot .u16 (fillz p d a v e s z t o q) 375 == 0) = (!v && !t && !q) := by decide +kernel
theorem fz_832 : ∀ p d a v e s z t o q : Bool, (bits .andNot .u16 (fillz p d a v e s z t o q) 832 == 0) = (!p && !d && !a && !v && !e && !s && !t) := by decide +kernel
theorem nd_512 : ∀ p d a v e s z t o q : Bool, (bits .andNot .u16 512 (fillz p d a v e s z t o q) == 0) = q := by decide +kernel
theorem nd_128 : ∀ p d a v e s z t o q : Bool, (bits .andNot .u16 128 (fillz p d a v e s z t o q) == 0) = t := by decide +kernel
theorem nd_64 : ∀ p d a v e s z t o q : Bool, (bits .andNot .u16 64 (fillz p d a v e s z t o q) == 0) = z := by decide +kernel
theorem nd_0 : ∀ p d a v e s z t o q : Bool, (bits .andNot .u16 0 (fillz p d a v e s z t o q) == 0) = true := by decide +kernel

/-- May a request be, its inner ones aside, as the document says? -/
def mayF (f : RqF) (n : Nat) : Bool := mayB f.kind f.path f.data.length f.acl.length f.ver f.eph f.seq f.ses f.tmo f.who.length n (aclOk f.acl) (whoOk f.who)

set_option maxHeartbeats 1000000 in
theorem mayF_1 (f : RqF) (n : Nat) (h : f.kind = 1) : mayF f n = (flatOk 12 0 f n && (bdOk f && decide ((n : Int) ≤ 8))) := by
  obtain ⟨kind, path, data, acl, ver, eph, seq, ses, tmo, who⟩ := f
  simp only at h
  subst h
  have e1 : nms 12 0 1 = 375 := by decide +kernel
  have e2 : need 1 = 0 := by decide +kernel
  have e3 : (lt4 1).toList.isEmpty = false := by decide +kernel
  have hp : hasB (lt4 1) 112 = true := by decide +kernel
  have hd : hasB (lt4 1) 100 = true := by decide +kernel
  have ha : hasB (lt4 1) 97 = true := by decide +kernel
  have hv : hasB (lt4 1) 118 = false := by decide +kernel
  have hf : hasB (lt4 1) 102 = true := by decide +kernel
  have hs : hasB (lt4 1) 115 = true := by decide +kernel
  have ht : hasB (lt4 1) 116 = false := by decide +kernel
  have hw : hasB (lt4 1) 119 = true := by decide +kernel
  have ho : hasB (lt4 1) 111 = false := by decide +kernel
  unfold mayF mayB flatOk bdOk fz
  simp only [e1, e2, e3, fz_375, nd_0, hp, hd, ha, hv, hf, hs, ht, hw, ho]
  generalize aclOk acl = x1
  generalize whoOk who = x2
  generalize path.toList.isEmpty = x3
  generalize path.size = x4
  generalize data.length = x5
  generalize acl.length = x6
  generalize who.length = x7
  rw [Bool.eq_iff_iff]
  cases x1 <;> cases x2 <;> cases x3 <;> cases eph <;> cases seq <;> simp <;> omega

set_option maxHeartbeats 1000000 in
theorem mayF_2 (f : RqF) (n : Nat) (h : f.kind = 2) : mayF f n = (flatOk 12 0 f n && (bdOk f && decide ((n : Int) ≤ 8))) := by
  obtain ⟨kind, path, data, acl, ver, eph, seq, ses, tmo, who⟩ := f
  simp only at h
  subst h
  have e1 : nms 12 0 2 = 329 := by decide +kernel
  have e2 : need 2 = 0 := by decide +kernel
  have e3 : (lt4 2).toList.isEmpty = false := by decide +kernel
  have hp : hasB (lt4 2) 112 = true := by decide +kernel
  have hd : hasB (lt4 2) 100 = false := by decide +kernel
  have ha : hasB (lt4 2) 97 = false := by decide +kernel
  have hv : hasB (lt4 2) 118 = true := by decide +kernel
  have hf : hasB (lt4 2) 102 = false := by decide +kernel
  have hs : hasB (lt4 2) 115 = true := by decide +kernel
  have ht : hasB (lt4 2) 116 = false := by decide +kernel
  have hw : hasB (lt4 2) 119 = true := by decide +kernel
  have ho : hasB (lt4 2) 111 = false := by decide +kernel
  unfold mayF mayB flatOk bdOk fz
  simp only [e1, e2, e3, fz_329, nd_0, hp, hd, ha, hv, hf, hs, ht, hw, ho]
  generalize aclOk acl = x1
  generalize whoOk who = x2
  generalize path.toList.isEmpty = x3
  generalize path.size = x4
  generalize data.length = x5
  generalize acl.length = x6
  generalize who.length = x7
  rw [Bool.eq_iff_iff]
  cases x1 <;> cases x2 <;> cases x3 <;> cases eph <;> cases seq <;> simp <;> omega

set_option maxHeartbeats 1000000 in
theorem mayF_3 (f : RqF) (n : Nat) (h : f.kind = 3) : mayF f n = (flatOk 12 0 f n && (bdOk f && decide ((n : Int) ≤ 8))) := by
  obtain ⟨kind, path, data, acl, ver, eph, seq, ses, tmo, who⟩ := f
  simp only at h
  subst h
  have e1 : nms 12 0 3 = 331 := by decide +kernel
  have e2 : need 3 = 0 := by decide +kernel
  have e3 : (lt4 3).toList.isEmpty = false := by decide +kernel
  have hp : hasB (lt4 3) 112 = true := by decide +kernel
  have hd : hasB (lt4 3) 100 = true := by decide +kernel
  have ha : hasB (lt4 3) 97 = false := by decide +kernel
  have hv : hasB (lt4 3) 118 = true := by decide +kernel
  have hf : hasB (lt4 3) 102 = false := by decide +kernel
  have hs : hasB (lt4 3) 115 = true := by decide +kernel
  have ht : hasB (lt4 3) 116 = false := by decide +kernel
  have hw : hasB (lt4 3) 119 = true := by decide +kernel
  have ho : hasB (lt4 3) 111 = false := by decide +kernel
  unfold mayF mayB flatOk bdOk fz
  simp only [e1, e2, e3, fz_331, nd_0, hp, hd, ha, hv, hf, hs, ht, hw, ho]
  generalize aclOk acl = x1
  generalize whoOk who = x2
  generalize path.toList.isEmpty = x3
  generalize path.size = x4
  generalize data.length = x5
  generalize acl.length = x6
  generalize who.length = x7
  rw [Bool.eq_iff_iff]
  cases x1 <;> cases x2 <;> cases x3 <;> cases eph <;> cases seq <;> simp <;> omega

set_option maxHeartbeats 1000000 in
theorem mayF_4 (f : RqF) (n : Nat) (h : f.kind = 4) : mayF f n = (flatOk 12 0 f n && (bdOk f && decide ((n : Int) ≤ 8))) := by
  obtain ⟨kind, path, data, acl, ver, eph, seq, ses, tmo, who⟩ := f
  simp only at h
  subst h
  have e1 : nms 12 0 4 = 333 := by decide +kernel
  have e2 : need 4 = 0 := by decide +kernel
  have e3 : (lt4 4).toList.isEmpty = false := by decide +kernel
  have hp : hasB (lt4 4) 112 = true := by decide +kernel
  have hd : hasB (lt4 4) 100 = false := by decide +kernel
  have ha : hasB (lt4 4) 97 = true := by decide +kernel
  have hv : hasB (lt4 4) 118 = true := by decide +kernel
  have hf : hasB (lt4 4) 102 = false := by decide +kernel
  have hs : hasB (lt4 4) 115 = true := by decide +kernel
  have ht : hasB (lt4 4) 116 = false := by decide +kernel
  have hw : hasB (lt4 4) 119 = true := by decide +kernel
  have ho : hasB (lt4 4) 111 = false := by decide +kernel
  unfold mayF mayB flatOk bdOk fz
  simp only [e1, e2, e3, fz_333, nd_0, hp, hd, ha, hv, hf, hs, ht, hw, ho]
  generalize aclOk acl = x1
  generalize whoOk who = x2
  generalize path.toList.isEmpty = x3
  generalize path.size = x4
  generalize data.length = x5
  generalize acl.length = x6
  generalize who.length = x7
  rw [Bool.eq_iff_iff]
  cases x1 <;> cases x2 <;> cases x3 <;> cases eph <;> cases seq <;> simp <;> omega

set_option maxHeartbeats 1000000 in
theorem mayF_5 (f : RqF) (n : Nat) (h : f.kind = 5) : mayF f n = (flatOk 12 0 f n && (bdOk f && decide ((n : Int) ≤ 8))) := by
  obtain ⟨kind, path, data, acl, ver, eph, seq, ses, tmo, who⟩ := f
  simp only at h
  subst h
  have e1 : nms 12 0 5 = 329 := by decide +kernel
  have e2 : need 5 = 0 := by decide +kernel
  have e3 : (lt4 5).toList.isEmpty = false := by decide +kernel
  have hp : hasB (lt4 5) 112 = true := by decide +kernel
  have hd : hasB (lt4 5) 100 = false := by decide +kernel
  have ha : hasB (lt4 5) 97 = false := by decide +kernel
  have hv : hasB (lt4 5) 118 = true := by decide +kernel
  have hf : hasB (lt4 5) 102 = false := by decide +kernel
  have hs : hasB (lt4 5) 115 = true := by decide +kernel
  have ht : hasB (lt4 5) 116 = false := by decide +kernel
  have hw : hasB (lt4 5) 119 = true := by decide +kernel
  have ho : hasB (lt4 5) 111 = false := by decide +kernel
  unfold mayF mayB flatOk bdOk fz
  simp only [e1, e2, e3, fz_329, nd_0, hp, hd, ha, hv, hf, hs, ht, hw, ho]
  generalize aclOk acl = x1
  generalize whoOk who = x2
  generalize path.toList.isEmpty = x3
  generalize path.size = x4
  generalize data.length = x5
  generalize acl.length = x6
  generalize who.length = x7
  rw [Bool.eq_iff_iff]
  cases x1 <;> cases x2 <;> cases x3 <;> cases eph <;> cases seq <;> simp <;> omega

set_option maxHeartbeats 1000000 in
theorem mayF_6 (f : RqF) (n : Nat) (h : f.kind = 6) : mayF f n = (flatOk 12 0 f n && (bdOk f && decide ((n : Int) ≤ 8))) := by
  obtain ⟨kind, path, data, acl, ver, eph, seq, ses, tmo, who⟩ := f
  simp only at h
  subst h
  have e1 : nms 12 0 6 = 832 := by decide +kernel
  have e2 : need 6 = 512 := by decide +kernel
  have e3 : (lt4 6).toList.isEmpty = false := by decide +kernel
  have hp : hasB (lt4 6) 112 = false := by decide +kernel
  have hd : hasB (lt4 6) 100 = false := by decide +kernel
  have ha : hasB (lt4 6) 97 = false := by decide +kernel
  have hv : hasB (lt4 6) 118 = false := by decide +kernel
  have hf : hasB (lt4 6) 102 = false := by decide +kernel
  have hs : hasB (lt4 6) 115 = true := by decide +kernel
  have ht : hasB (lt4 6) 116 = false := by decide +kernel
  have hw : hasB (lt4 6) 119 = true := by decide +kernel
  have ho : hasB (lt4 6) 111 = true := by decide +kernel
  unfold mayF mayB flatOk bdOk fz
  simp only [e1, e2, e3, fz_832, nd_512, hp, hd, ha, hv, hf, hs, ht, hw, ho]
  generalize aclOk acl = x1
  generalize whoOk who = x2
  generalize path.toList.isEmpty = x3
  generalize path.size = x4
  generalize data.length = x5
  generalize acl.length = x6
  generalize who.length = x7
  rw [Bool.eq_iff_iff]
  cases x1 <;> cases x2 <;> cases x3 <;> cases eph <;> cases seq <;> simp <;> omega

end Go.Proofs.YtldcbabgommghaaGreatDoor

/- The document's may and the program's bits agree, kinds 7 to 12. No Go function is walked here. -/
namespace Go.Proofs.YtldcbabgommghaaGreatDoor
open Go.RowKit
set_option maxRecDepth 8000

set_option maxHeartbeats 1000000 in
theorem mayF_7 (f : RqF) (n : Nat) (h : f.kind = 7) : mayF f n = (flatOk 12 0 f n && (bdOk f && decide ((n : Int) ≤ 8))) := by
  obtain ⟨kind, path, data, acl, ver, eph, seq, ses, tmo, who⟩ := f
  simp only at h
  subst h
  have e1 : nms 12 0 7 = 128 := by decide +kernel
  have e2 : need 7 = 128 := by decide +kernel
  have e3 : (lt4 7).toList.isEmpty = false := by decide +kernel
  have hp : hasB (lt4 7) 112 = false := by decide +kernel
  have hd : hasB (lt4 7) 100 = false := by decide +kernel
  have ha : hasB (lt4 7) 97 = false := by decide +kernel
  have hv : hasB (lt4 7) 118 = false := by decide +kernel
  have hf : hasB (lt4 7) 102 = false := by decide +kernel
  have hs : hasB (lt4 7) 115 = false := by decide +kernel
  have ht : hasB (lt4 7) 116 = true := by decide +kernel
  have hw : hasB (lt4 7) 119 = false := by decide +kernel
  have ho : hasB (lt4 7) 111 = false := by decide +kernel
  unfold mayF mayB flatOk bdOk fz
  simp only [e1, e2, e3, fz_128, nd_128, hp, hd, ha, hv, hf, hs, ht, hw, ho]
  generalize aclOk acl = x1
  generalize whoOk who = x2
  generalize path.toList.isEmpty = x3
  generalize path.size = x4
  generalize data.length = x5
  generalize acl.length = x6
  generalize who.length = x7
  rw [Bool.eq_iff_iff]
  cases x1 <;> cases x2 <;> cases x3 <;> cases eph <;> cases seq <;> simp <;> omega

set_option maxHeartbeats 1000000 in
theorem mayF_8 (f : RqF) (n : Nat) (h : f.kind = 8) : mayF f n = (flatOk 12 0 f n && (bdOk f && decide ((n : Int) ≤ 8))) := by
  obtain ⟨kind, path, data, acl, ver, eph, seq, ses, tmo, who⟩ := f
  simp only at h
  subst h
  have e1 : nms 12 0 8 = 64 := by decide +kernel
  have e2 : need 8 = 64 := by decide +kernel
  have e3 : (lt4 8).toList.isEmpty = false := by decide +kernel
  have hp : hasB (lt4 8) 112 = false := by decide +kernel
  have hd : hasB (lt4 8) 100 = false := by decide +kernel
  have ha : hasB (lt4 8) 97 = false := by decide +kernel
  have hv : hasB (lt4 8) 118 = false := by decide +kernel
  have hf : hasB (lt4 8) 102 = false := by decide +kernel
  have hs : hasB (lt4 8) 115 = true := by decide +kernel
  have ht : hasB (lt4 8) 116 = false := by decide +kernel
  have hw : hasB (lt4 8) 119 = false := by decide +kernel
  have ho : hasB (lt4 8) 111 = false := by decide +kernel
  unfold mayF mayB flatOk bdOk fz
  simp only [e1, e2, e3, fz_64, nd_64, hp, hd, ha, hv, hf, hs, ht, hw, ho]
  generalize aclOk acl = x1
  generalize whoOk who = x2
  generalize path.toList.isEmpty = x3
  generalize path.size = x4
  generalize data.length = x5
  generalize acl.length = x6
  generalize who.length = x7
  rw [Bool.eq_iff_iff]
  cases x1 <;> cases x2 <;> cases x3 <;> cases eph <;> cases seq <;> simp <;> omega

set_option maxHeartbeats 1000000 in
theorem mayF_9 (f : RqF) (n : Nat) (h : f.kind = 9) : mayF f n = (flatOk 12 0 f n && (bdOk f && decide ((n : Int) ≤ 8))) := by
  obtain ⟨kind, path, data, acl, ver, eph, seq, ses, tmo, who⟩ := f
  simp only at h
  subst h
  have e1 : nms 12 0 9 = 321 := by decide +kernel
  have e2 : need 9 = 0 := by decide +kernel
  have e3 : (lt4 9).toList.isEmpty = false := by decide +kernel
  have hp : hasB (lt4 9) 112 = true := by decide +kernel
  have hd : hasB (lt4 9) 100 = false := by decide +kernel
  have ha : hasB (lt4 9) 97 = false := by decide +kernel
  have hv : hasB (lt4 9) 118 = false := by decide +kernel
  have hf : hasB (lt4 9) 102 = false := by decide +kernel
  have hs : hasB (lt4 9) 115 = true := by decide +kernel
  have ht : hasB (lt4 9) 116 = false := by decide +kernel
  have hw : hasB (lt4 9) 119 = true := by decide +kernel
  have ho : hasB (lt4 9) 111 = false := by decide +kernel
  unfold mayF mayB flatOk bdOk fz
  simp only [e1, e2, e3, fz_321, nd_0, hp, hd, ha, hv, hf, hs, ht, hw, ho]
  generalize aclOk acl = x1
  generalize whoOk who = x2
  generalize path.toList.isEmpty = x3
  generalize path.size = x4
  generalize data.length = x5
  generalize acl.length = x6
  generalize who.length = x7
  rw [Bool.eq_iff_iff]
  cases x1 <;> cases x2 <;> cases x3 <;> cases eph <;> cases seq <;> simp <;> omega

set_option maxHeartbeats 1000000 in
theorem mayF_10 (f : RqF) (n : Nat) (h : f.kind = 10) : mayF f n = (flatOk 12 0 f n && (bdOk f && decide ((n : Int) ≤ 8))) := by
  obtain ⟨kind, path, data, acl, ver, eph, seq, ses, tmo, who⟩ := f
  simp only at h
  subst h
  have e1 : nms 12 0 10 = 321 := by decide +kernel
  have e2 : need 10 = 0 := by decide +kernel
  have e3 : (lt4 10).toList.isEmpty = false := by decide +kernel
  have hp : hasB (lt4 10) 112 = true := by decide +kernel
  have hd : hasB (lt4 10) 100 = false := by decide +kernel
  have ha : hasB (lt4 10) 97 = false := by decide +kernel
  have hv : hasB (lt4 10) 118 = false := by decide +kernel
  have hf : hasB (lt4 10) 102 = false := by decide +kernel
  have hs : hasB (lt4 10) 115 = true := by decide +kernel
  have ht : hasB (lt4 10) 116 = false := by decide +kernel
  have hw : hasB (lt4 10) 119 = true := by decide +kernel
  have ho : hasB (lt4 10) 111 = false := by decide +kernel
  unfold mayF mayB flatOk bdOk fz
  simp only [e1, e2, e3, fz_321, nd_0, hp, hd, ha, hv, hf, hs, ht, hw, ho]
  generalize aclOk acl = x1
  generalize whoOk who = x2
  generalize path.toList.isEmpty = x3
  generalize path.size = x4
  generalize data.length = x5
  generalize acl.length = x6
  generalize who.length = x7
  rw [Bool.eq_iff_iff]
  cases x1 <;> cases x2 <;> cases x3 <;> cases eph <;> cases seq <;> simp <;> omega

set_option maxHeartbeats 1000000 in
theorem mayF_11 (f : RqF) (n : Nat) (h : f.kind = 11) : mayF f n = (flatOk 12 0 f n && (bdOk f && decide ((n : Int) ≤ 8))) := by
  obtain ⟨kind, path, data, acl, ver, eph, seq, ses, tmo, who⟩ := f
  simp only at h
  subst h
  have e1 : nms 12 0 11 = 321 := by decide +kernel
  have e2 : need 11 = 0 := by decide +kernel
  have e3 : (lt4 11).toList.isEmpty = false := by decide +kernel
  have hp : hasB (lt4 11) 112 = true := by decide +kernel
  have hd : hasB (lt4 11) 100 = false := by decide +kernel
  have ha : hasB (lt4 11) 97 = false := by decide +kernel
  have hv : hasB (lt4 11) 118 = false := by decide +kernel
  have hf : hasB (lt4 11) 102 = false := by decide +kernel
  have hs : hasB (lt4 11) 115 = true := by decide +kernel
  have ht : hasB (lt4 11) 116 = false := by decide +kernel
  have hw : hasB (lt4 11) 119 = true := by decide +kernel
  have ho : hasB (lt4 11) 111 = false := by decide +kernel
  unfold mayF mayB flatOk bdOk fz
  simp only [e1, e2, e3, fz_321, nd_0, hp, hd, ha, hv, hf, hs, ht, hw, ho]
  generalize aclOk acl = x1
  generalize whoOk who = x2
  generalize path.toList.isEmpty = x3
  generalize path.size = x4
  generalize data.length = x5
  generalize acl.length = x6
  generalize who.length = x7
  rw [Bool.eq_iff_iff]
  cases x1 <;> cases x2 <;> cases x3 <;> cases eph <;> cases seq <;> simp <;> omega

set_option maxHeartbeats 1000000 in
theorem mayF_12 (f : RqF) (n : Nat) (h : f.kind = 12) : mayF f n = (flatOk 12 0 f n && (bdOk f && decide ((n : Int) ≤ 8))) := by
  obtain ⟨kind, path, data, acl, ver, eph, seq, ses, tmo, who⟩ := f
  simp only at h
  subst h
  have e1 : nms 12 0 12 = 321 := by decide +kernel
  have e2 : need 12 = 0 := by decide +kernel
  have e3 : (lt4 12).toList.isEmpty = false := by decide +kernel
  have hp : hasB (lt4 12) 112 = true := by decide +kernel
  have hd : hasB (lt4 12) 100 = false := by decide +kernel
  have ha : hasB (lt4 12) 97 = false := by decide +kernel
  have hv : hasB (lt4 12) 118 = false := by decide +kernel
  have hf : hasB (lt4 12) 102 = false := by decide +kernel
  have hs : hasB (lt4 12) 115 = true := by decide +kernel
  have ht : hasB (lt4 12) 116 = false := by decide +kernel
  have hw : hasB (lt4 12) 119 = true := by decide +kernel
  have ho : hasB (lt4 12) 111 = false := by decide +kernel
  unfold mayF mayB flatOk bdOk fz
  simp only [e1, e2, e3, fz_321, nd_0, hp, hd, ha, hv, hf, hs, ht, hw, ho]
  generalize aclOk acl = x1
  generalize whoOk who = x2
  generalize path.toList.isEmpty = x3
  generalize path.size = x4
  generalize data.length = x5
  generalize acl.length = x6
  generalize who.length = x7
  rw [Bool.eq_iff_iff]
  cases x1 <;> cases x2 <;> cases x3 <;> cases eph <;> cases seq <;> simp <;> omega

end Go.Proofs.YtldcbabgommghaaGreatDoor
