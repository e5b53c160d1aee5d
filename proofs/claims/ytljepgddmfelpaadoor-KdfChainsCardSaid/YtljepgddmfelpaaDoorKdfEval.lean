/- Marks of fixed texts, reckoned by the kernel. Nothing of the program. -/
import Derived.Test.YtljepgddmfelpaaDoorKdfChain
namespace Go.Proofs.YtljepgddmfelpaaDoor
namespace Kdf
open Num Mem Words State Blake

theorem mac_eval {key : Nat → Nat} {k : Nat} {T : Nat → Nat} {N : Nat} (L1 L2 : List Nat) (h1 : finalL (firstL 32 0) (inT key k T) (64 + N) = L1)
    (h2 : finalL (firstL 32 0) (fun i => if i < 64 then keyPad key k i ^^^ 92 else sumAt L1 (i - 64)) 96 = L2) : macF key k T N = sumAt L2 := by
  unfold macF
  rw [← sum32_is, ← h2]
  congr 2
  funext i
  unfold outT
  rw [← sum32_is, h1]
def kT : Nat → Nat := fun i => if i = 0 then 107 else 0
def tT : Nat → Nat := fun _ => 116
def aL : List Nat := [3030759104, 3031434619, 1536874228, 3753540532, 3099355711, 485370119, 1114600125, 4154545828]
def rL : List Nat := [2035744064, 728717612, 2881844482, 2606768424, 4134819532, 551369220, 2806111051, 1113453977]
def cL : List Nat := [3326421870, 1435891140, 3297241737, 1350647870, 1306838251, 1533695236, 2184310086, 1632694018]
def dL : List Nat := [2672217844, 1025180189, 1450836864, 4032125291, 673113205, 1940404718, 313341924, 1175615559]
theorem eval_a : macF kT 1 tT 1 = sumAt aL := mac_eval [2431133432, 3073250683, 4054319156, 284200738, 251501721, 2845838086, 649591916, 122753976] aL (by decide +kernel) (by decide +kernel)
theorem eval_r : macF (sumAt aL) 32 (fun _ => 0) 0 = sumAt rL := mac_eval [2698616049, 3395527350, 3484840154, 1141190185, 3891184351, 3083304298, 2569840837, 2129714501] rL (by decide +kernel) (by decide +kernel)
theorem eval_c : linkF (sumAt rL) 0 = sumAt cL := mac_eval [2896941349, 935900838, 1083689696, 4114191268, 644797615, 194116925, 1704509005, 806879085] cL (by decide +kernel) (by decide +kernel)
theorem eval_d : linkF (sumAt rL) 1 = sumAt dL := by
  rw [show linkF (sumAt rL) 1 = macF (sumAt rL) 32 (catF (linkF (sumAt rL) 0) 32 fun _ => 2) 33 from rfl, eval_c]
  exact mac_eval [985300586, 946959125, 3645870679, 715904749, 407405549, 3021920728, 3546996326, 340243169] dL (by decide +kernel) (by decide +kernel)
theorem firsts : sumAt aL 0 = 192 ∧ sumAt cL 0 = 110 ∧ sumAt dL 0 = 244 := by decide +kernel

end Kdf
end Go.Proofs.YtljepgddmfelpaaDoor
